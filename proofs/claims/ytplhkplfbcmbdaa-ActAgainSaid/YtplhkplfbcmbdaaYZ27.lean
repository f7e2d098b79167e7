/- The contracts of the laws' Light, light: whatever they answer. The contract of the laws' small: the model that awake asks of; and what it comes to. -/
import Derived.Test.YtplhkplfbcmbdaaYZ11
import Derived.Test.YtplhkplfbcmbdaaYZ24
namespace Go.Proofs.Ytplhkplfbcmbdaa
open Go.RowKit Go.Deep
set_option linter.unusedVariables false
set_option maxRecDepth 100000

set_option maxHeartbeats 1600000 in
theorem light8_any (m : Mdl) (vd vp vl vi : Value) (w : World) (hm : MdlAt m vd vp vl vi w) :
    Calls Try.prog 9 #[mval m vd vp vl vi] w fun e w' => ∃ b, e = .returned (.bool b) ∧ Below w.heap.size w w' := by
  obtain ⟨ad, cd, rfl, _, _, _⟩ := id hm.d
  obtain ⟨ai, ci, rfl, _, _, _⟩ := id hm.i
  obtain ⟨gp, hp1, hp2⟩ := id hm.p
  obtain ⟨ap, cp, rfl, mp1, mp2, kp⟩ := hp1
  obtain ⟨gl, hl1, hl2⟩ := id hm.l
  obtain ⟨al, cl, rfl, ml1, ml2, kl⟩ := hl1
  have KP := Lib.hid kp
  have KL := Lib.hid kl
  have HP := Lib.hid hp2
  have HL := Lib.hid hl2
  unfold mval
  have X1 := Lib.hid (heap_alloc_new w (.cells #[.int .i64 m.seed, .float .f64 m.fin, .slice ad m.nd cd, .slice ap m.np cp, .slice al m.nl cl, .slice ai m.ni ci] 28))
  have B1 := Lib.hid (balloc w (.cells #[.int .i64 m.seed, .float .f64 m.fin, .slice ad m.nd cd, .slice ap m.np cp, .slice al m.nl cl, .slice ai m.ni ci] 28))
  clear hm hp2 hl2 kp kl
  obtain ⟨m0, m1, m2, m3, m4, m5⟩ := six_cells7 X1.out
  go_enter Try.func9, Try.ntmps9
  go_upto_region 1 with fail
  generalize w.alloc (.cells #[.int .i64 m.seed, .float .f64 m.fin, .slice ad m.nd cd, .slice ap m.np cp, .slice al m.nl cl, .slice ai m.ni ci] 28) = u at *
  by_cases h1 : 10 < m.np
  · have d1 : decide ((10 : Int) < (m.np : Int)) = true := by simp; omega
    clear h1
    go_wp2_with fail
    go_ret
    exact ⟨_, rfl, B1.out⟩
  have d1 : decide ((10 : Int) < (m.np : Int)) = false := by simp; omega
  by_cases h2 : 20 < m.nl
  · have d2 : decide ((20 : Int) < (m.nl : Int)) = true := by simp; omega
    clear h1 h2
    go_wp2_with fail
    go_ret
    exact ⟨_, rfl, B1.out⟩
  have d2 : decide ((20 : Int) < (m.nl : Int)) = false := by simp; omega
  by_cases h3 : 60 < m.nd
  · have d3 : decide ((60 : Int) < (m.nd : Int)) = true := by simp; omega
    clear h1 h2 h3
    go_wp2_with fail
    go_ret
    exact ⟨_, rfl, B1.out⟩
  have d3 : decide ((60 : Int) < (m.nd : Int)) = false := by simp; omega
  by_cases h4 : 60 < m.ni
  · have d4 : decide ((60 : Int) < (m.ni : Int)) = true := by simp; omega
    clear h1 h2 h3 h4
    go_wp2_with fail
    go_ret
    exact ⟨_, rfl, B1.out⟩
  have d4 : decide ((60 : Int) < (m.ni : Int)) = false := by simp; omega
  clear h1 h2 h3 h4
  go_wp2_with fail
  go_loopw [3] (fun x wr => ∃ j : Nat, j ≤ m.np ∧ x = .int .i64 j ∧ wr = u) (fun x _ => m.np - (intOf x).toNat)
  case atStart => exact ⟨0, Nat.zero_le _, rfl, rfl⟩
  case round =>
    obtain ⟨j, hj, rfl, hw⟩ := hrel
    subst wr
    by_cases hlt : j < m.np
    · obtain ⟨b, o, rfl, hat⟩ := KP.out (by omega)
      have c0 := (hat.below B1.out).one j hlt
      simp only [gV] at c0
      obtain ⟨aq, cq, eq, _⟩ := HP.out j hlt
      rw [eq] at c0
      have hj2 : (j : Int) < (m.np : Int) := by omega
      have hj0 : (0 : Int) ≤ (j : Int) := by omega
      have hjt : ((j : Nat) : Int).toNat = j := by omega
      clear hat eq
      by_cases hq : 100 < m.pl j
      · have dq : decide ((100 : Int) < (m.pl j : Int)) = true := by simp; omega
        clear hq
        go_wp2_with fail
        go_ret
        exact ⟨_, rfl, B1.out⟩
      · have dq : decide ((100 : Int) < (m.pl j : Int)) = false := by simp; omega
        clear hq
        go_wp2_with fail
        go_roundw
        case rel => exact ⟨j + 1, by omega, by go_num, trivial⟩
        case measure => simp [intOf]; omega
    · obtain rfl : j = m.np := by omega
      go_wp2_with fail
      go_loopw [4] (fun x wr => ∃ j : Nat, j ≤ m.nl ∧ x = .int .i64 j ∧ wr = u) (fun x _ => m.nl - (intOf x).toNat)
      case atStart => exact ⟨0, Nat.zero_le _, rfl, rfl⟩
      case round =>
        obtain ⟨j, hj, rfl, hw⟩ := hrel
        subst wr
        by_cases hlt : j < m.nl
        · obtain ⟨b, o, rfl, hat⟩ := KL.out (by omega)
          obtain ⟨c1, c0⟩ := (hat.below B1.out).two j hlt
          simp only [gL] at c0
          obtain ⟨aq, cq, eq, _⟩ := HL.out j hlt
          rw [eq] at c0
          have hj2 : (j : Int) < (m.nl : Int) := by omega
          have hj0 : (0 : Int) ≤ (j : Int) := by omega
          have hjt : ((j : Nat) : Int).toNat = j := by omega
          clear hat eq
          by_cases hq : 60 < m.wl j
          · have dq : decide ((60 : Int) < (m.wl j : Int)) = true := by simp; omega
            clear hq
            go_wp2_with fail
            go_ret
            exact ⟨_, rfl, B1.out⟩
          · have dq : decide ((60 : Int) < (m.wl j : Int)) = false := by simp; omega
            clear hq
            go_wp2_with fail
            go_roundw
            case rel => exact ⟨j + 1, by omega, by go_num, trivial⟩
            case measure => simp [intOf]; omega
        · obtain rfl : j = m.nl := by omega
          go_wp2_with fail
          go_ret
          exact ⟨_, rfl, B1.out⟩

/-- a case: a model, a process, a state, an event -/
def cval (m : Mdl) (vd vp vl vi : Value) (lp : Int) (s : Sta) (vI : Value) (e : Evn) : Value :=
  .agg #[.int .i64 m.seed, .float .f64 m.fin, vd, vp, vl, vi, .int .i64 lp, vI, .int .i64 s.sent, .int .i64 s.dice, .float .f64 e.t, .int .i64 e.src, .int .i64 e.n, .int .i64 e.dst, .int .i64 e.pay]
def cbox (m : Mdl) (vd vp vl vi : Value) (lp : Int) (s : Sta) (vI : Value) (e : Evn) : Obj :=
  .cells #[.int .i64 m.seed, .float .f64 m.fin, vd, vp, vl, vi, .int .i64 lp, vI, .int .i64 s.sent, .int .i64 s.dice, .float .f64 e.t, .int .i64 e.src, .int .i64 e.n, .int .i64 e.dst, .int .i64 e.pay] 51
section
variable {m : Mdl} {vd vp vl vi : Value} {lp : Int} {s : Sta} {vI : Value} {e : Evn} {B : Nat} {u : World}
theorem cbox_cells (h : u.heap[B]? = some (cbox m vd vp vl vi lp s vI e)) : u.cell? ⟨B, 0, none⟩ = some (.int .i64 m.seed) ∧ u.cell? ⟨B, 1, none⟩ = some (.float .f64 m.fin) ∧ u.cell? ⟨B, 2, none⟩ = some vd ∧ u.cell? ⟨B, 3, none⟩ = some vp ∧ u.cell? ⟨B, 4, none⟩ = some vl ∧ u.cell? ⟨B, 5, none⟩ = some vi ∧ u.cell? ⟨B, 6, none⟩ = some (.int .i64 lp) ∧ u.cell? ⟨B, 7, none⟩ = some vI ∧ u.cell? ⟨B, 8, none⟩ = some (.int .i64 s.sent) ∧ u.cell? ⟨B, 9, none⟩ = some (.int .i64 s.dice) ∧ u.cell? ⟨B, 10, none⟩ = some (.float .f64 e.t) ∧ u.cell? ⟨B, 11, none⟩ = some (.int .i64 e.src) ∧ u.cell? ⟨B, 12, none⟩ = some (.int .i64 e.n) ∧ u.cell? ⟨B, 13, none⟩ = some (.int .i64 e.dst) ∧ u.cell? ⟨B, 14, none⟩ = some (.int .i64 e.pay) := by
  refine ⟨?_, ?_, ?_, ?_, ?_, ?_, ?_, ?_, ?_, ?_, ?_, ?_, ?_, ?_, ?_⟩ <;> (rw [Lib.cell_of_heap h]; rfl)
end
theorem light8c_any (m : Mdl) (vd vp vl vi : Value) (lp : Int) (s : Sta) (aI : Option Addr) (cI : Nat) (e : Evn) (w : World) (hm : MdlAt m vd vp vl vi w) :
    Calls Try.prog 19 #[cval m vd vp vl vi lp s (.slice aI s.nw cI) e] w fun x w' => ∃ b, x = .returned (.bool b) ∧ Below w.heap.size w w' := by
  have X1 : Hid ((w.alloc (cbox m vd vp vl vi lp s (.slice aI s.nw cI) e)).heap[w.heap.size]? = some (cbox m vd vp vl vi lp s (.slice aI s.nw cI) e)) := heap_alloc_new w _
  have B1 := Lib.hid (balloc w (cbox m vd vp vl vi lp s (.slice aI s.nw cI) e))
  have HL := Lib.hid (light8_any m vd vp vl vi _ (hm.below B1.out))
  obtain ⟨k0, k1, k2, k3, k4, k5, k6, k7, k8, k9, k10, k11, k12, k13, k14⟩ := cbox_cells X1.out
  clear hm
  unfold cval
  unfold mval at HL
  unfold cbox at *
  go_enter Try.func19, Try.ntmps19
  go_upto_region 1 with fail
  generalize w.alloc (.cells #[.int .i64 m.seed, .float .f64 m.fin, vd, vp, vl, vi, .int .i64 lp, .slice aI s.nw cI, .int .i64 s.sent, .int .i64 s.dice, .float .f64 e.t, .int .i64 e.src, .int .i64 e.n, .int .i64 e.dst, .int .i64 e.pay] 51) = u at *
  go_wp2_with (go_at_call 9; refine HL.out.mono ?_; rintro x u2 ⟨b, rfl, hb2⟩; have B2 := Lib.hid (bthen B1.out hb2); have kk := (cbox_cells ((hb2.block _ (lt_of_block X1.out)).trans X1.out)).2.2.2.2.2.2.2.1; clear hb2 k7; cases b)
  · go_wp2_with fail
    go_ret
    exact ⟨_, rfl, B2.out⟩
  · go_wp2_with fail
    go_ret
    exact ⟨_, rfl, B2.out⟩

end Go.Proofs.Ytplhkplfbcmbdaa
namespace Go.Proofs.Ytplhkplfbcmbdaa
open Go.RowKit Go.Deep
set_option linter.unusedVariables false
set_option maxRecDepth 100000

def smallP (k : Nat) : I4 := if k = 0 then ⟨13, 4, 5, 0⟩ else if k = 1 then ⟨3, 4, 4, 0⟩ else if k = 2 then ⟨14, 5, 4, 0⟩ else ⟨12, 1, 5, 4⟩
def smallM : Mdl := ⟨0, 4621819117588971520, 1, fun _ => 4602678819172646912, 1, fun _ => 4, fun _ => smallP, 1, fun _ => 0, fun _ => 1, fun _ _ => 1, 1, fun _ => ⟨4607182418800017408, 0, 2⟩⟩
theorem small_check : chkN smallM = 0 := by decide +kernel
theorem small_begin : (beginA smallM).2 = 0 ∧ (beginA smallM).1.n = 1 ∧ ((beginA smallM).1.f 0).t = 4607182418800017408 ∧ ((beginA smallM).1.f 0).src = -1 ∧ ((beginA smallM).1.f 0).n = 0 ∧ ((beginA smallM).1.f 0).dst = 0 ∧ ((beginA smallM).1.f 0).pay = 2 := by decide +kernel
theorem small_first : (firstA smallM 0).2 = 0 ∧ (firstA smallM 0).1.nw = 1 ∧ (firstA smallM 0).1.w 0 = 1 ∧ (firstA smallM 0).1.sent = 0 ∧ (firstA smallM 0).1.dice = 0 := by decide +kernel
def smallH : Hnd := handA smallM 0 (firstA smallM 0).1 ⟨4607182418800017408, -1, 0, 0, 2⟩
theorem small_hand : smallH.e = 0 ∧ smallH.f = 0 ∧ smallH.s.nw = 1 ∧ smallH.s.w 0 = 3 ∧ smallH.s.sent = 1 ∧ smallH.l.n = 1 ∧ (smallH.l.f 0).t = 4609434218613702656 ∧ (smallH.l.f 0).pay = 3 ∧ (smallH.l.f 0).n = 0 := by decide +kernel

theorem put_six8 {W : World} {B : Nat} {c0 c1 c2 c3 c4 c5 : Value} {T : TypeId} (h : W.heap[B]? = some (.cells #[c0, c1, c2, c3, c4, c5] T (0, 0))) (u0 u1 u2 u3 u4 u5 : Value) :
    (W.setCells B 0 [u0, u1, u2, u3, u4, u5]).heap[B]? = some (.cells #[u0, u1, u2, u3, u4, u5] T (0, 0)) :=
  Joins.block_setCell (Joins.block_setCell (Joins.block_setCell (Joins.block_setCell (Joins.block_setCell (Joins.block_setCell h u0) u1) u2) u3) u4) u5
set_option maxHeartbeats 3200000 in
theorem small8_any (w : World) : Calls Try.prog 26 #[] w fun e w' => ∃ vd vp vl vi, e = .returned (mval smallM vd vp vl vi) ∧ MdlAt smallM vd vp vl vi w' ∧ Below w.heap.size w w' := by
  have hsf := store_float
  have Z1 : Hid (((w.alloc (.cells #[.int .i64 0, .float .f64 0, .slice none 0 0, .slice none 0 0, .slice none 0 0, .slice none 0 0] 28)).alloc (.cells #[.int .i64 13, .int .i64 4, .int .i64 5, .int .i64 0, .int .i64 3, .int .i64 4, .int .i64 4, .int .i64 0, .int .i64 14, .int .i64 5, .int .i64 4, .int .i64 0, .int .i64 12, .int .i64 1, .int .i64 5, .int .i64 4] 91)).heap[w.heap.size]? = some (.cells #[.int .i64 0, .float .f64 0, .slice none 0 0, .slice none 0 0, .slice none 0 0, .slice none 0 0] 28)) := (Below.heap_alloc _ _ _ (by rw [World.size_alloc]; omega)).trans (heap_alloc_new w _)
  have C1 : Hid (((w.alloc (.cells #[.int .i64 0, .float .f64 0, .slice none 0 0, .slice none 0 0, .slice none 0 0, .slice none 0 0] 28)).alloc (.cells #[.int .i64 13, .int .i64 4, .int .i64 5, .int .i64 0, .int .i64 3, .int .i64 4, .int .i64 4, .int .i64 0, .int .i64 14, .int .i64 5, .int .i64 4, .int .i64 0, .int .i64 12, .int .i64 1, .int .i64 5, .int .i64 4] 91)).heap[w.heap.size + 1]? = some (.cells #[.int .i64 13, .int .i64 4, .int .i64 5, .int .i64 0, .int .i64 3, .int .i64 4, .int .i64 4, .int .i64 0, .int .i64 14, .int .i64 5, .int .i64 4, .int .i64 0, .int .i64 12, .int .i64 1, .int .i64 5, .int .i64 4] 91)) := by
    have := heap_alloc_new (w.alloc (.cells #[.int .i64 0, .float .f64 0, .slice none 0 0, .slice none 0 0, .slice none 0 0, .slice none 0 0] 28)) (.cells #[.int .i64 13, .int .i64 4, .int .i64 5, .int .i64 0, .int .i64 3, .int .i64 4, .int .i64 4, .int .i64 0, .int .i64 14, .int .i64 5, .int .i64 4, .int .i64 0, .int .i64 12, .int .i64 1, .int .i64 5, .int .i64 4] 91)
    rwa [World.size_alloc] at this
  have B1 := Lib.hid (bthen (balloc w (.cells #[.int .i64 0, .float .f64 0, .slice none 0 0, .slice none 0 0, .slice none 0 0, .slice none 0 0] 28)) (balloc _ (.cells #[.int .i64 13, .int .i64 4, .int .i64 5, .int .i64 0, .int .i64 3, .int .i64 4, .int .i64 4, .int .i64 0, .int .i64 14, .int .i64 5, .int .i64 4, .int .i64 0, .int .i64 12, .int .i64 1, .int .i64 5, .int .i64 4] 91)))
  have N1 : Hid (((w.alloc (.cells #[.int .i64 0, .float .f64 0, .slice none 0 0, .slice none 0 0, .slice none 0 0, .slice none 0 0] 28)).alloc (.cells #[.int .i64 13, .int .i64 4, .int .i64 5, .int .i64 0, .int .i64 3, .int .i64 4, .int .i64 4, .int .i64 0, .int .i64 14, .int .i64 5, .int .i64 4, .int .i64 0, .int .i64 12, .int .i64 1, .int .i64 5, .int .i64 4] 91)).heap.size = w.heap.size + 2) := by show _ = _; rw [World.size_alloc, World.size_alloc]
  go_enter Try.func26, Try.ntmps26
  go_upto_region 1 with fail
  go_upto_region 2 with fail
  generalize (w.alloc (.cells #[.int .i64 0, .float .f64 0, .slice none 0 0, .slice none 0 0, .slice none 0 0, .slice none 0 0] 28)).alloc (.cells #[.int .i64 13, .int .i64 4, .int .i64 5, .int .i64 0, .int .i64 3, .int .i64 4, .int .i64 4, .int .i64 0, .int .i64 14, .int .i64 5, .int .i64 4, .int .i64 0, .int .i64 12, .int .i64 1, .int .i64 5, .int .i64 4] 91) = u1 at *
  have y1 : (u1.alloc (.cells #[.float .f64 4602678819172646912] 22)).heap.size = u1.heap.size + 1 := World.size_alloc _ _
  have y2 : ((u1.alloc (.cells #[.float .f64 4602678819172646912] 22)).alloc (.cells #[.slice (some ⟨w.heap.size + 1, 0, none⟩) 4 4] 60)).heap.size = u1.heap.size + 2 := by rw [World.size_alloc, y1]
  have y3 : (((u1.alloc (.cells #[.float .f64 4602678819172646912] 22)).alloc (.cells #[.slice (some ⟨w.heap.size + 1, 0, none⟩) 4 4] 60)).alloc (.cells #[.int .i64 1] 3)).heap.size = u1.heap.size + 3 := by rw [World.size_alloc, y2]
  have y4 : ((((u1.alloc (.cells #[.float .f64 4602678819172646912] 22)).alloc (.cells #[.slice (some ⟨w.heap.size + 1, 0, none⟩) 4 4] 60)).alloc (.cells #[.int .i64 1] 3)).alloc (.cells #[.int .i64 0, .slice (some ⟨u1.heap.size + 2, 0, none⟩) 1 1] 62)).heap.size = u1.heap.size + 4 := by rw [World.size_alloc, y3]
  have e1 := heap_alloc_new u1 (.cells #[.float .f64 4602678819172646912] 22)
  have e2 := heap_alloc_new (u1.alloc (.cells #[.float .f64 4602678819172646912] 22)) (.cells #[.slice (some ⟨w.heap.size + 1, 0, none⟩) 4 4] 60)
  have e3 := heap_alloc_new ((u1.alloc (.cells #[.float .f64 4602678819172646912] 22)).alloc (.cells #[.slice (some ⟨w.heap.size + 1, 0, none⟩) 4 4] 60)) (.cells #[.int .i64 1] 3)
  have e4 := heap_alloc_new (((u1.alloc (.cells #[.float .f64 4602678819172646912] 22)).alloc (.cells #[.slice (some ⟨w.heap.size + 1, 0, none⟩) 4 4] 60)).alloc (.cells #[.int .i64 1] 3)) (.cells #[.int .i64 0, .slice (some ⟨u1.heap.size + 2, 0, none⟩) 1 1] 62)
  have e5 := heap_alloc_new ((((u1.alloc (.cells #[.float .f64 4602678819172646912] 22)).alloc (.cells #[.slice (some ⟨w.heap.size + 1, 0, none⟩) 4 4] 60)).alloc (.cells #[.int .i64 1] 3)).alloc (.cells #[.int .i64 0, .slice (some ⟨u1.heap.size + 2, 0, none⟩) 1 1] 62)) (.cells #[.float .f64 4607182418800017408, .int .i64 0, .int .i64 2] 65)
  rw [y1] at e2; rw [y2] at e3; rw [y3] at e4; rw [y4] at e5
  have BV : Hid (Below u1.heap.size u1 (((((u1.alloc (.cells #[.float .f64 4602678819172646912] 22)).alloc (.cells #[.slice (some ⟨w.heap.size + 1, 0, none⟩) 4 4] 60)).alloc (.cells #[.int .i64 1] 3)).alloc (.cells #[.int .i64 0, .slice (some ⟨u1.heap.size + 2, 0, none⟩) 1 1] 62)).alloc (.cells #[.float .f64 4607182418800017408, .int .i64 0, .int .i64 2] 65))) := bthen (bthen (bthen (bthen (balloc _ _) (balloc _ _)) (balloc _ _)) (balloc _ _)) (balloc _ _)
  have ZV := Lib.hid ((BV.out.block _ (lt_of_block Z1.out)).trans Z1.out)
  have CV := Lib.hid ((BV.out.block _ (lt_of_block C1.out)).trans C1.out)
  have DV : Hid ((((((u1.alloc (.cells #[.float .f64 4602678819172646912] 22)).alloc (.cells #[.slice (some ⟨w.heap.size + 1, 0, none⟩) 4 4] 60)).alloc (.cells #[.int .i64 1] 3)).alloc (.cells #[.int .i64 0, .slice (some ⟨u1.heap.size + 2, 0, none⟩) 1 1] 62)).alloc (.cells #[.float .f64 4607182418800017408, .int .i64 0, .int .i64 2] 65)).heap[u1.heap.size]? = some (.cells #[.float .f64 4602678819172646912] 22)) := (Below.heap_alloc _ _ _ (by omega)).trans ((Below.heap_alloc _ _ _ (by omega)).trans ((Below.heap_alloc _ _ _ (by omega)).trans ((Below.heap_alloc _ _ _ (by omega)).trans e1)))
  have PV : Hid ((((((u1.alloc (.cells #[.float .f64 4602678819172646912] 22)).alloc (.cells #[.slice (some ⟨w.heap.size + 1, 0, none⟩) 4 4] 60)).alloc (.cells #[.int .i64 1] 3)).alloc (.cells #[.int .i64 0, .slice (some ⟨u1.heap.size + 2, 0, none⟩) 1 1] 62)).alloc (.cells #[.float .f64 4607182418800017408, .int .i64 0, .int .i64 2] 65)).heap[u1.heap.size + 1]? = some (.cells #[.slice (some ⟨w.heap.size + 1, 0, none⟩) 4 4] 60)) := (Below.heap_alloc _ _ _ (by omega)).trans ((Below.heap_alloc _ _ _ (by omega)).trans ((Below.heap_alloc _ _ _ (by omega)).trans e2))
  have WV : Hid ((((((u1.alloc (.cells #[.float .f64 4602678819172646912] 22)).alloc (.cells #[.slice (some ⟨w.heap.size + 1, 0, none⟩) 4 4] 60)).alloc (.cells #[.int .i64 1] 3)).alloc (.cells #[.int .i64 0, .slice (some ⟨u1.heap.size + 2, 0, none⟩) 1 1] 62)).alloc (.cells #[.float .f64 4607182418800017408, .int .i64 0, .int .i64 2] 65)).heap[u1.heap.size + 2]? = some (.cells #[.int .i64 1] 3)) := (Below.heap_alloc _ _ _ (by omega)).trans ((Below.heap_alloc _ _ _ (by omega)).trans e3)
  have LV : Hid ((((((u1.alloc (.cells #[.float .f64 4602678819172646912] 22)).alloc (.cells #[.slice (some ⟨w.heap.size + 1, 0, none⟩) 4 4] 60)).alloc (.cells #[.int .i64 1] 3)).alloc (.cells #[.int .i64 0, .slice (some ⟨u1.heap.size + 2, 0, none⟩) 1 1] 62)).alloc (.cells #[.float .f64 4607182418800017408, .int .i64 0, .int .i64 2] 65)).heap[u1.heap.size + 3]? = some (.cells #[.int .i64 0, .slice (some ⟨u1.heap.size + 2, 0, none⟩) 1 1] 62)) := (Below.heap_alloc _ _ _ (by omega)).trans e4
  have IV : Hid ((((((u1.alloc (.cells #[.float .f64 4602678819172646912] 22)).alloc (.cells #[.slice (some ⟨w.heap.size + 1, 0, none⟩) 4 4] 60)).alloc (.cells #[.int .i64 1] 3)).alloc (.cells #[.int .i64 0, .slice (some ⟨u1.heap.size + 2, 0, none⟩) 1 1] 62)).alloc (.cells #[.float .f64 4607182418800017408, .int .i64 0, .int .i64 2] 65)).heap[u1.heap.size + 4]? = some (.cells #[.float .f64 4607182418800017408, .int .i64 0, .int .i64 2] 65)) := e5
  clear y1 y2 y3 y4 e1 e2 e3 e4 e5
  obtain ⟨z0, z1, z2, z3, z4, z5⟩ := six_cells7 ZV.out
  have zf : ∀ q, (((((u1.alloc (.cells #[.float .f64 4602678819172646912] 22)).alloc (.cells #[.slice (some ⟨w.heap.size + 1, 0, none⟩) 4 4] 60)).alloc (.cells #[.int .i64 1] 3)).alloc (.cells #[.int .i64 0, .slice (some ⟨u1.heap.size + 2, 0, none⟩) 1 1] 62)).alloc (.cells #[.float .f64 4607182418800017408, .int .i64 0, .int .i64 2] 65)).frozen? ⟨w.heap.size, q, none⟩ = false := fun q => Lib.frozen_of_heap ZV.out q
  go_wp2_with fail
  change bodyPost _ _ _ _ _ (World.setCells (((((u1.alloc (.cells #[.float .f64 4602678819172646912] 22)).alloc (.cells #[.slice (some ⟨w.heap.size + 1, 0, none⟩) 4 4] 60)).alloc (.cells #[.int .i64 1] 3)).alloc (.cells #[.int .i64 0, .slice (some ⟨u1.heap.size + 2, 0, none⟩) 1 1] 62)).alloc (.cells #[.float .f64 4607182418800017408, .int .i64 0, .int .i64 2] 65)) w.heap.size 0 [.int .i64 0, .float .f64 4621819117588971520, .slice (some ⟨u1.heap.size, 0, none⟩) 1 1, .slice (some ⟨u1.heap.size + 1, 0, none⟩) 1 1, .slice (some ⟨u1.heap.size + 3, 0, none⟩) 1 1, .slice (some ⟨u1.heap.size + 4, 0, none⟩) 1 1])
  have BS := Lib.hid (put_low7 (Nat.le_refl w.heap.size) [.int .i64 0, .float .f64 4621819117588971520, .slice (some ⟨u1.heap.size, 0, none⟩) 1 1, .slice (some ⟨u1.heap.size + 1, 0, none⟩) 1 1, .slice (some ⟨u1.heap.size + 3, 0, none⟩) 1 1, .slice (some ⟨u1.heap.size + 4, 0, none⟩) 1 1] 0 (((((u1.alloc (.cells #[.float .f64 4602678819172646912] 22)).alloc (.cells #[.slice (some ⟨w.heap.size + 1, 0, none⟩) 4 4] 60)).alloc (.cells #[.int .i64 1] 3)).alloc (.cells #[.int .i64 0, .slice (some ⟨u1.heap.size + 2, 0, none⟩) 1 1] 62)).alloc (.cells #[.float .f64 4607182418800017408, .int .i64 0, .int .i64 2] 65)))
  have SO : ∀ q, w.heap.size < q → (World.setCells (((((u1.alloc (.cells #[.float .f64 4602678819172646912] 22)).alloc (.cells #[.slice (some ⟨w.heap.size + 1, 0, none⟩) 4 4] 60)).alloc (.cells #[.int .i64 1] 3)).alloc (.cells #[.int .i64 0, .slice (some ⟨u1.heap.size + 2, 0, none⟩) 1 1] 62)).alloc (.cells #[.float .f64 4607182418800017408, .int .i64 0, .int .i64 2] 65)) w.heap.size 0 [.int .i64 0, .float .f64 4621819117588971520, .slice (some ⟨u1.heap.size, 0, none⟩) 1 1, .slice (some ⟨u1.heap.size + 1, 0, none⟩) 1 1, .slice (some ⟨u1.heap.size + 3, 0, none⟩) 1 1, .slice (some ⟨u1.heap.size + 4, 0, none⟩) 1 1]).heap[q]? = (((((u1.alloc (.cells #[.float .f64 4602678819172646912] 22)).alloc (.cells #[.slice (some ⟨w.heap.size + 1, 0, none⟩) 4 4] 60)).alloc (.cells #[.int .i64 1] 3)).alloc (.cells #[.int .i64 0, .slice (some ⟨u1.heap.size + 2, 0, none⟩) 1 1] 62)).alloc (.cells #[.float .f64 4607182418800017408, .int .i64 0, .int .i64 2] 65)).heap[q]? := fun q hq => setCells_other8 (by omega) _ 0 _
  have h5 := put_six8 ZV.out (.int .i64 0) (.float .f64 4621819117588971520) (.slice (some ⟨u1.heap.size, 0, none⟩) 1 1) (.slice (some ⟨u1.heap.size + 1, 0, none⟩) 1 1) (.slice (some ⟨u1.heap.size + 3, 0, none⟩) 1 1) (.slice (some ⟨u1.heap.size + 4, 0, none⟩) 1 1)
  have n1 := N1.out
  have c1 := (SO _ (by omega)).trans CV.out
  have d1 := (SO _ (by omega)).trans DV.out
  have p1 := (SO _ (by omega)).trans PV.out
  have w1 := (SO _ (by omega)).trans WV.out
  have l1 := (SO _ (by omega)).trans LV.out
  have i1 := (SO _ (by omega)).trans IV.out
  have LZ := Lib.hid ((B1.out.trans (BV.out.mono (by omega))).trans BS.out)
  obtain ⟨t0, t1, t2, t3, t4, t5⟩ := six_cells7 h5
  clear SO BS BV h5 z0 z1 z2 z3 z4 z5 zf CV DV PV WV LV IV ZV
  generalize World.setCells (((((u1.alloc (.cells #[.float .f64 4602678819172646912] 22)).alloc (.cells #[.slice (some ⟨w.heap.size + 1, 0, none⟩) 4 4] 60)).alloc (.cells #[.int .i64 1] 3)).alloc (.cells #[.int .i64 0, .slice (some ⟨u1.heap.size + 2, 0, none⟩) 1 1] 62)).alloc (.cells #[.float .f64 4607182418800017408, .int .i64 0, .int .i64 2] 65)) w.heap.size 0 [.int .i64 0, .float .f64 4621819117588971520, .slice (some ⟨u1.heap.size, 0, none⟩) 1 1, .slice (some ⟨u1.heap.size + 1, 0, none⟩) 1 1, .slice (some ⟨u1.heap.size + 3, 0, none⟩) 1 1, .slice (some ⟨u1.heap.size + 4, 0, none⟩) 1 1] = w9 at *
  have MA : Hid (MdlAt smallM (.slice (some ⟨u1.heap.size, 0, none⟩) 1 1) (.slice (some ⟨u1.heap.size + 1, 0, none⟩) 1 1) (.slice (some ⟨u1.heap.size + 3, 0, none⟩) 1 1) (.slice (some ⟨u1.heap.size + 4, 0, none⟩) 1 1) w9) := by
    refine ⟨sl_block (C := 1) (n := 1) d1 (by decide) (fun i hi j hj => ?_), ⟨fun _ => .slice (some ⟨w.heap.size + 1, 0, none⟩) 4 4, sl_block (C := 1) (n := 1) p1 (by decide) (fun i hi j hj => ?_), fun i hi => sl_block (C := 4) (n := 4) c1 (by decide) (fun k hk j hj => ?_)⟩, ⟨fun _ => .slice (some ⟨u1.heap.size + 2, 0, none⟩) 1 1, sl_block (C := 2) (n := 1) l1 (by decide) (fun i hi j hj => ?_), fun i hi => sl_block (C := 1) (n := 1) w1 (by decide) (fun k hk j hj => ?_)⟩, sl_block (C := 3) (n := 1) i1 (by decide) (fun i hi j hj => ?_)⟩
    · obtain ⟨rfl, rfl⟩ : i = 0 ∧ j = 0 := by omega
      rfl
    · obtain ⟨rfl, rfl⟩ : i = 0 ∧ j = 0 := by omega
      rfl
    · have hk : k = 0 ∨ k = 1 ∨ k = 2 ∨ k = 3 := by have hk : k < 4 := hk; omega
      have hj : j = 0 ∨ j = 1 ∨ j = 2 ∨ j = 3 := by omega
      rcases hk with rfl | rfl | rfl | rfl <;> rcases hj with rfl | rfl | rfl | rfl <;> rfl
    · have hi : i = 0 := by omega
      have hj : j = 0 ∨ j = 1 := by omega
      subst hi
      rcases hj with rfl | rfl <;> rfl
    · obtain ⟨rfl, rfl⟩ : k = 0 ∧ j = 0 := by have hk : k < 1 := hk; omega
      rfl
    · have hi : i = 0 := by omega
      have hj : j = 0 ∨ j = 1 ∨ j = 2 := by omega
      subst hi
      rcases hj with rfl | rfl | rfl <;> rfl
  exact bodyPost_ret (v := .agg #[.int .i64 0, .float .f64 4621819117588971520, .slice (some ⟨u1.heap.size, 0, none⟩) 1 1, .slice (some ⟨u1.heap.size + 1, 0, none⟩) 1 1, .slice (some ⟨u1.heap.size + 3, 0, none⟩) 1 1, .slice (some ⟨u1.heap.size + 4, 0, none⟩) 1 1]) (by simp [results, Try.results26, go_sem, t0, t1, t2, t3, t4, t5]) rfl ⟨_, _, _, _, rfl, MA.out, LZ.out⟩

end Go.Proofs.Ytplhkplfbcmbdaa
