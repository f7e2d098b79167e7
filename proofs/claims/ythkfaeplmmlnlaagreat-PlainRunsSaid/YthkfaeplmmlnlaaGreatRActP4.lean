/- The contracts of the program's Begin, sender, sender$1, eventsOf. -/
import Derived.Test.YthkfaeplmmlnlaaGreatRActP3
import Derived.Test.YthkfaeplmmlnlaaGreatRZ0
import Derived.Test.YthkfaeplmmlnlaaGreatRZ3
namespace Go.Proofs.YthkfaeplmmlnlaaGreat
open Go.RowKit Go.Deep
set_option linter.unusedVariables false
set_option maxRecDepth 100000

set_option maxHeartbeats 3200000 in
theorem beginAny : BeginAny := by
  intro m vd vp vl vi w hm
  obtain ⟨i0, hi0, hz0, hz1, hz2⟩ := info_parts info_event8
  have hsf := store_float
  have HM := Lib.hid hm
  obtain ⟨ad, cd, rfl, _, _, _⟩ := id hm.d
  obtain ⟨ai, ci, rfl, li1, li2, ki⟩ := id hm.i
  obtain ⟨_, ⟨ap, cp, rfl, _, _, _⟩, _⟩ := id hm.p
  obtain ⟨gl, ⟨al, cl, rfl, ml1, ml2, kl⟩, hl2⟩ := id hm.l
  unfold mval
  have X1 := Lib.hid (heap_alloc_new w (.cells #[.int .i64 m.seed, .float .f64 m.fin, .slice ad m.nd cd, .slice ap m.np cp, .slice al m.nl cl, .slice ai m.ni ci] 28))
  have B1 := Lib.hid (balloc w (.cells #[.int .i64 m.seed, .float .f64 m.fin, .slice ad m.nd cd, .slice ap m.np cp, .slice al m.nl cl, .slice ai m.ni ci] 28))
  have HK : Hid (∀ u, Below w.heap.size w u → Calls Tryz.prog 20 #[(.agg #[.int .i64 m.seed, .float .f64 m.fin, .slice ad m.nd cd, .slice ap m.np cp, .slice al m.nl cl, .slice ai m.ni ci])] u fun e w' => e = .returned (.int .i64 (chkN m)) ∧ Below u.heap.size u w') := fun u k => check_any m _ _ _ _ u (HM.out.below k)
  have K1 := Lib.hid ki
  have hc : chkN m = 0 ∨ chkN m = 15 := by unfold chkN; split <;> simp
  obtain ⟨m0, m1, m2, m3, m4, m5⟩ := six_cells7 X1.out
  clear ki kl hl2 hm
  generalize hu : w.alloc (.cells #[.int .i64 m.seed, .float .f64 m.fin, .slice ad m.nd cd, .slice ap m.np cp, .slice al m.nl cl, .slice ai m.ni ci] 28) = u at *
  go_enter Tryz.func24, Tryz.ntmps24
  go_upto_region 1 with fail
  try rw [hu]
  clear hu
  by_cases h0 : chkN m = 0
  · have EF : Hid (beginA m = (beginE m m.ni, 0)) := if_neg (by simp [h0])
    have h16 := (chk_more8 h0).2.1
    have H16 := Lib.hid h16
    rw [h0] at HK
    clear h0 hc h16
    go_wp2_with (go_at_call 20; refine (HK.out _ B1.out).mono ?_; rintro x u2 ⟨rfl, hb2⟩; have B2 := Lib.hid (bthen B1.out hb2); have X2 := Lib.hid ((hb2.block _ (lt_of_block X1.out)).trans X1.out); clear hb2 m0 m1 m2 m3 m4 m5; obtain ⟨m0, m1, m2, m3, m4, m5⟩ := six_cells7 X2.out)
    go_loopw [5, 19] (fun v i wr => ∃ j : Nat, j ≤ m.ni ∧ i = .int .i64 j ∧ EvsAt w.heap.size (beginE m j) v wr ∧ Below w.heap.size w wr ∧ wr.heap[w.heap.size]? = some (.cells #[.int .i64 m.seed, .float .f64 m.fin, .slice ad m.nd cd, .slice ap m.np cp, .slice al m.nl cl, .slice ai m.ni ci] 28)) (fun _ i _ => m.ni - (intOf i).toNat)
    case atStart => exact ⟨0, Nat.zero_le _, rfl, evsAt_none _ _, B2.out, X2.out⟩
    case round =>
      obtain ⟨j, hj, rfl, hv, hl, hx⟩ := hrel
      have HV := Lib.hid hv
      have HL := Lib.hid hl
      have HX := Lib.hid hx
      clear m0 m1 m2 m3 m4 m5
      obtain ⟨m0, m1, m2, m3, m4, m5⟩ := six_cells7 hx
      obtain ⟨az, cz, rfl, _⟩ := id hv
      clear hv hl hx X1 X2 B1 B2
      by_cases hlt : j < m.ni
      · obtain ⟨b, o, rfl, h1⟩ := K1.out (by omega)
        have hA2 := h1.below HL.out
        obtain ⟨c0, c1, c2⟩ := hA2.three j hlt
        simp only [gE] at c0 c1 c2
        have HN := Lib.hid (norm_any (m.ev j).t)
        have hj2 : (j : Int) < (m.ni : Int) := by omega
        have hj0 : (0 : Int) ≤ (j : Int) := by omega
        have hjt : ((j : Nat) : Int).toNat = j := by omega
        have hbn : (beginE m j).n ≤ j := beginE_n m j
        have h16 := H16.out
        have EB : Hid (beginE m (j + 1) = if leqF (normSpec (m.ev j).t).1 m.fin then (beginE m j).push ⟨(normSpec (m.ev j).t).1, -1, (j : Int), (m.ev j).dst, (m.ev j).pay⟩ else beginE m j) := rfl
        clear h1 hA2 K1
        unfold feRet at HN
        generalize normSpec (m.ev j).t = ts at *
        obtain ⟨t, te⟩ := ts
        simp only at HN EB
        have L1 := Lib.hid (bthen HL.out (balloc wr (.cells #[.float .f64 (m.ev j).t, .int .i64 (m.ev j).dst, .int .i64 (m.ev j).pay] 78)))
        have V1 := Lib.hid (HV.out.below (balloc wr (.cells #[.float .f64 (m.ev j).t, .int .i64 (m.ev j).dst, .int .i64 (m.ev j).pay] 78)))
        have X1 := Lib.hid ((Below.heap_alloc wr (.cells #[.float .f64 (m.ev j).t, .int .i64 (m.ev j).dst, .int .i64 (m.ev j).pay] 78) _ (lt_of_block HX.out)).trans HX.out)
        have Y1 := Lib.hid (heap_alloc_new wr (.cells #[.float .f64 (m.ev j).t, .int .i64 (m.ev j).dst, .int .i64 (m.ev j).pay] 78))
        cases hq : leqF t m.fin with
        | false =>
          have dq : ((FloatKind.f64.format.order t m.fin == some Ordering.lt) || (FloatKind.f64.format.order t m.fin == some Ordering.eq)) = false := hq
          rw [hq] at EB
          clear hq
          generalize hu : wr.alloc (.cells #[.float .f64 (m.ev j).t, .int .i64 (m.ev j).dst, .int .i64 (m.ev j).pay] 78) = u1 at *
          go_upto_region 8 with fail
          try rw [hu]
          clear hu m0 m1 m2 m3 m4 m5
          obtain ⟨m0, m1, m2, m3, m4, m5⟩ := six_cells7 X1.out
          obtain ⟨n0, n1, n2⟩ := three_cells8 Y1.out
          go_wp2_with (go_at_call 57; refine (HN.out _).mono ?_; rintro e w1 ⟨rfl, hw1⟩; subst w1)
          go_roundw
          case rel => exact ⟨j + 1, by omega, by go_num, by rw [EB.out]; exact V1.out, L1.out, X1.out⟩
          case measure => simp [intOf]; omega
        | true =>
          have dq : ((FloatKind.f64.format.order t m.fin == some Ordering.lt) || (FloatKind.f64.format.order t m.fin == some Ordering.eq)) = true := hq
          rw [hq] at EB
          clear hq
          generalize hu : wr.alloc (.cells #[.float .f64 (m.ev j).t, .int .i64 (m.ev j).dst, .int .i64 (m.ev j).pay] 78) = u1 at *
          go_upto_region 8 with fail
          try rw [hu]
          clear hu m0 m1 m2 m3 m4 m5
          generalize wr.heap.size = q1 at *
          have L3 := Lib.hid (bthen L1.out (balloc u1 (.cells #[.float .f64 t, .int .i64 (-1), .int .i64 (j : Int)] 39)))
          have V3 := Lib.hid (V1.out.below (balloc u1 (.cells #[.float .f64 t, .int .i64 (-1), .int .i64 (j : Int)] 39)))
          have X3 := Lib.hid ((Below.heap_alloc u1 (.cells #[.float .f64 t, .int .i64 (-1), .int .i64 (j : Int)] 39) _ (lt_of_block X1.out)).trans X1.out)
          have Y3 := Lib.hid ((Below.heap_alloc u1 (.cells #[.float .f64 t, .int .i64 (-1), .int .i64 (j : Int)] 39) _ (lt_of_block Y1.out)).trans Y1.out)
          have T3 := Lib.hid (heap_alloc_new u1 (.cells #[.float .f64 t, .int .i64 (-1), .int .i64 (j : Int)] 39))
          obtain ⟨m0, m1, m2, m3, m4, m5⟩ := six_cells7 X1.out
          obtain ⟨n0, n1, n2⟩ := three_cells8 Y1.out
          generalize hu : u1.alloc (.cells #[.float .f64 t, .int .i64 (-1), .int .i64 (j : Int)] 39) = u3 at *
          go_upto_region 11 with (go_at_call 57; refine (HN.out _).mono ?_; rintro e w1 ⟨rfl, hw1⟩; subst w1)
          try rw [hu]
          clear hu m0 m1 m2 m3 m4 m5 n0 n1 n2
          generalize u1.heap.size = q3 at *
          obtain ⟨n0, n1, n2⟩ := three_cells8 Y3.out
          obtain ⟨t0, t1, t2⟩ := three_cells8 T3.out
          have X4 := Lib.hid (balloc u3 (.cells #[.float .f64 t, .int .i64 (-1), .int .i64 (j : Int), .int .i64 (m.ev j).dst, .int .i64 (m.ev j).pay] 41))
          have V4 := Lib.hid (V3.out.below (balloc u3 (.cells #[.float .f64 t, .int .i64 (-1), .int .i64 (j : Int), .int .i64 (m.ev j).dst, .int .i64 (m.ev j).pay] 41)))
          have L4 := Lib.hid (L3.out.trans ((balloc u3 (.cells #[.float .f64 t, .int .i64 (-1), .int .i64 (j : Int), .int .i64 (m.ev j).dst, .int .i64 (m.ev j).pay] 41)).mono L3.out.size))
          have HNW := Lib.hid (news_cells7 u3 #[.float .f64 t, .int .i64 (-1), .int .i64 (j : Int), .int .i64 (m.ev j).dst, .int .i64 (m.ev j).pay] 41)
          have HOW : Hid ((u3.alloc (.cells #[.float .f64 t, .int .i64 (-1), .int .i64 (j : Int), .int .i64 (m.ev j).dst, .int .i64 (m.ev j).pay] 41)).ownsRow w.heap.size 41 5 (.slice az (beginE m j).n cz) (beginE m j).n (rowCells 5 (gV8 (beginE m j).f) (beginE m j).n)) := by
            obtain ⟨_, _, e1, h1⟩ := V4.out
            simp only [Value.slice.injEq, true_and] at e1
            obtain ⟨rfl, rfl⟩ := e1
            exact h1
          have HBS : Hid (w.heap.size ≤ (u3.alloc (.cells #[.float .f64 t, .int .i64 (-1), .int .i64 (j : Int), .int .i64 (m.ev j).dst, .int .i64 (m.ev j).pay] 41)).heap.size) := L4.out.size
          have X6 := Lib.hid ((Below.heap_alloc u3 (.cells #[.float .f64 t, .int .i64 (-1), .int .i64 (j : Int), .int .i64 (m.ev j).dst, .int .i64 (m.ev j).pay] 41) _ (lt_of_block X3.out)).trans X3.out)
          go_wp2_with (at_builtin; refine wpList_append_own _ rfl _ _ 50 rfl w.heap.size 41 i0 (.agg #[.float .f64 0, .int .i64 0, .int .i64 0, .int .i64 0, .int .i64 0]) 5 40 Tryz.underlying50 hi0 hz0 hz1 hz2 rfl (by decide) (.slice az (beginE m j).n cz) (beginE m j).n _ rfl HOW.out ⟨u3.heap.size, 0, none⟩ 1 1 [.float .f64 t, .int .i64 (-1), .int .i64 (j : Int), .int .i64 (m.ev j).dst, .int .i64 (m.ev j).pay] rfl rfl HNW.out (by simp [Value.oneCell']) (by unfold maxLen; omega) (by omega) HBS.out ?_)
          intro v1 w10 hown hgr hnn
          have L5 := Lib.hid (L4.out.trans (below_grown HOW.out HBS.out hgr))
          have V5 : Hid (EvsAt w.heap.size (beginE m (j + 1)) v1 w10) := by
            show EvsAt _ _ _ _
            rw [EB.out]
            first | rw [if_pos rfl] | rw [if_pos trivial]
            obtain ⟨a1, c1, e1⟩ : ∃ a c, v1 = .slice a ((beginE m j).n + 1) c := by
              rcases hown.2 with ⟨rfl, h⟩ | ⟨g, cap, cur, rfl, _⟩
              · exact absurd h (Nat.succ_ne_zero _)
              · exact ⟨_, _, rfl⟩
            subst e1
            refine ⟨a1, c1, rfl, ?_⟩
            rw [← push_cells (beginE m j) ⟨t, -1, (j : Int), (m.ev j).dst, (m.ev j).pay⟩]
            exact hown
          have X7 := Lib.hid (grown_keep7 HOW.out hgr X6.out (by decide))
          clear hown hgr hnn
          go_wp2_with fail
          go_roundw
          case rel => exact ⟨j + 1, by omega, by go_num, V5.out, L5.out, X7.out⟩
          case measure => simp [intOf]; omega
      · obtain rfl : j = m.ni := by omega
        go_wp2_with fail
        go_ret2
        exact ⟨.slice az (beginE m m.ni).n cz, by rw [EF.out]; rfl, by rw [EF.out]; exact HV.out, HL.out⟩
  · have EF : Hid (beginA m = (evs0, 15)) := if_pos h0
    have h15 : chkN m = 15 := hc.resolve_left h0
    rw [h15] at HK
    clear h0 h15 hc
    go_wp2_with (go_at_call 20; refine (HK.out _ B1.out).mono ?_; rintro x u2 ⟨rfl, hb2⟩; have B2 := Lib.hid (bthen B1.out hb2); clear hb2 m0 m1 m2 m3 m4 m5)
    go_ret2
    exact ⟨.slice none 0 0, by rw [EF.out]; rfl, by rw [EF.out]; exact evsAt_none _ _, B2.out⟩


/-- what sender has boxed -/
structure SInv (m : Mdl) (ad : Option Addr) (cd : Nat) (ap : Option Addr) (cp : Nat) (al : Option Addr) (cl : Nat) (ai : Option Addr) (ci : Nat) (lp : Int) (s : Sta) (aI : Option Addr) (cI : Nat) (e : Evn) (B : Nat) (u : World) : Prop where
  m : u.heap[B]? = some (.cells #[.int .i64 m.seed, .float .f64 m.fin, .slice ad m.nd cd, .slice ap m.np cp, .slice al m.nl cl, .slice ai m.ni ci] 28)
  l : u.heap[B + 1]? = some (.cells #[.int .i64 lp] 3)
  s : u.heap[B + 2]? = some (.cells #[.slice aI s.nw cI, .int .i64 s.sent, .int .i64 s.dice] 55)
  e : u.heap[B + 3]? = some (.cells #[.float .f64 e.t, .int .i64 e.src, .int .i64 e.n, .int .i64 e.dst, .int .i64 e.pay] 41)
theorem SInv.below {m : Mdl} {ad : Option Addr} {cd : Nat} {ap : Option Addr} {cp : Nat} {al : Option Addr} {cl : Nat} {ai : Option Addr} {ci : Nat} {lp : Int} {s : Sta} {aI : Option Addr} {cI : Nat} {e : Evn} {B : Nat} {u u2 : World} (h : SInv m ad cd ap cp al cl ai ci lp s aI cI e B u) (k : Below u.heap.size u u2) : SInv m ad cd ap cp al cl ai ci lp s aI cI e B u2 :=
  ⟨(k.block _ (lt_of_block h.m)).trans h.m, (k.block _ (lt_of_block h.l)).trans h.l, (k.block _ (lt_of_block h.s)).trans h.s, (k.block _ (lt_of_block h.e)).trans h.e⟩
set_option maxHeartbeats 1600000 in
theorem sender8_any (m : Mdl) (ad : Option Addr) (cd : Nat) (ap : Option Addr) (cp : Nat) (al : Option Addr) (cl : Nat) (ai : Option Addr) (ci : Nat) (lp : Int) (s : Sta) (aI : Option Addr) (cI : Nat) (e : Evn) (w : World) :
    Calls Tryz.prog 65 #[(.agg #[.int .i64 m.seed, .float .f64 m.fin, .slice ad m.nd cd, .slice ap m.np cp, .slice al m.nl cl, .slice ai m.ni ci]), .int .i64 lp, .agg #[.slice aI s.nw cI, .int .i64 s.sent, .int .i64 s.dice], .agg #[.float .f64 e.t, .int .i64 e.src, .int .i64 e.n, .int .i64 e.dst, .int .i64 e.pay]] w fun x w' => x = .returned (.func (.func 86) #[] #[.pointer (some ⟨w.heap.size + 3, 0, none⟩), .pointer (some ⟨w.heap.size, 0, none⟩), .pointer (some ⟨w.heap.size + 1, 0, none⟩), .pointer (some ⟨w.heap.size + 2, 0, none⟩)]) ∧ SInv m ad cd ap cp al cl ai ci lp s aI cI e w.heap.size w' ∧ Below w.heap.size w w' := by
  have q0 : (w.alloc (.cells #[.int .i64 m.seed, .float .f64 m.fin, .slice ad m.nd cd, .slice ap m.np cp, .slice al m.nl cl, .slice ai m.ni ci] 28)).heap.size = w.heap.size + 1 := World.size_alloc _ _
  have q1 : ((w.alloc (.cells #[.int .i64 m.seed, .float .f64 m.fin, .slice ad m.nd cd, .slice ap m.np cp, .slice al m.nl cl, .slice ai m.ni ci] 28)).alloc (.cells #[.int .i64 lp] 3)).heap.size = w.heap.size + 2 := by rw [World.size_alloc, q0]
  have q2 : (((w.alloc (.cells #[.int .i64 m.seed, .float .f64 m.fin, .slice ad m.nd cd, .slice ap m.np cp, .slice al m.nl cl, .slice ai m.ni ci] 28)).alloc (.cells #[.int .i64 lp] 3)).alloc (.cells #[.slice aI s.nw cI, .int .i64 s.sent, .int .i64 s.dice] 55)).heap.size = w.heap.size + 3 := by rw [World.size_alloc, q1]
  have e1 := heap_alloc_new w (.cells #[.int .i64 m.seed, .float .f64 m.fin, .slice ad m.nd cd, .slice ap m.np cp, .slice al m.nl cl, .slice ai m.ni ci] 28)
  have e2 := heap_alloc_new (w.alloc (.cells #[.int .i64 m.seed, .float .f64 m.fin, .slice ad m.nd cd, .slice ap m.np cp, .slice al m.nl cl, .slice ai m.ni ci] 28)) (.cells #[.int .i64 lp] 3)
  have e3 := heap_alloc_new ((w.alloc (.cells #[.int .i64 m.seed, .float .f64 m.fin, .slice ad m.nd cd, .slice ap m.np cp, .slice al m.nl cl, .slice ai m.ni ci] 28)).alloc (.cells #[.int .i64 lp] 3)) (.cells #[.slice aI s.nw cI, .int .i64 s.sent, .int .i64 s.dice] 55)
  have e4 := heap_alloc_new (((w.alloc (.cells #[.int .i64 m.seed, .float .f64 m.fin, .slice ad m.nd cd, .slice ap m.np cp, .slice al m.nl cl, .slice ai m.ni ci] 28)).alloc (.cells #[.int .i64 lp] 3)).alloc (.cells #[.slice aI s.nw cI, .int .i64 s.sent, .int .i64 s.dice] 55)) (.cells #[.float .f64 e.t, .int .i64 e.src, .int .i64 e.n, .int .i64 e.dst, .int .i64 e.pay] 41)
  rw [q0] at e2; rw [q1] at e3; rw [q2] at e4
  have HS : Hid (SInv m ad cd ap cp al cl ai ci lp s aI cI e w.heap.size ((((w.alloc (.cells #[.int .i64 m.seed, .float .f64 m.fin, .slice ad m.nd cd, .slice ap m.np cp, .slice al m.nl cl, .slice ai m.ni ci] 28)).alloc (.cells #[.int .i64 lp] 3)).alloc (.cells #[.slice aI s.nw cI, .int .i64 s.sent, .int .i64 s.dice] 55)).alloc (.cells #[.float .f64 e.t, .int .i64 e.src, .int .i64 e.n, .int .i64 e.dst, .int .i64 e.pay] 41))) := ⟨(Below.heap_alloc _ _ _ (by omega)).trans ((Below.heap_alloc _ _ _ (by omega)).trans ((Below.heap_alloc _ _ _ (by omega)).trans e1)), (Below.heap_alloc _ _ _ (by omega)).trans ((Below.heap_alloc _ _ _ (by omega)).trans e2), (Below.heap_alloc _ _ _ (by omega)).trans e3, e4⟩
  have B1 := Lib.hid (bthen (bthen (bthen (balloc w (.cells #[.int .i64 m.seed, .float .f64 m.fin, .slice ad m.nd cd, .slice ap m.np cp, .slice al m.nl cl, .slice ai m.ni ci] 28)) (balloc _ (.cells #[.int .i64 lp] 3))) (balloc _ (.cells #[.slice aI s.nw cI, .int .i64 s.sent, .int .i64 s.dice] 55))) (balloc _ (.cells #[.float .f64 e.t, .int .i64 e.src, .int .i64 e.n, .int .i64 e.dst, .int .i64 e.pay] 41)))
  clear q0 q1 q2 e1 e2 e3 e4
  generalize hu : ((((w.alloc (.cells #[.int .i64 m.seed, .float .f64 m.fin, .slice ad m.nd cd, .slice ap m.np cp, .slice al m.nl cl, .slice ai m.ni ci] 28)).alloc (.cells #[.int .i64 lp] 3)).alloc (.cells #[.slice aI s.nw cI, .int .i64 s.sent, .int .i64 s.dice] 55)).alloc (.cells #[.float .f64 e.t, .int .i64 e.src, .int .i64 e.n, .int .i64 e.dst, .int .i64 e.pay] 41)) = u at *
  go_enter Tryz.func65, Tryz.ntmps65
  have hmf : ∀ (fn : Fn) (first cap : Array Value) (w : World), (Instr.makeFunc fn first cap).run Tryz.prog w = .ok (.func fn first cap) w := fun _ _ _ _ => rfl
  go_upto_region 1 with fail
  try rw [hu]
  clear hu
  go_wp2_with fail
  go_ret
  exact ⟨rfl, HS.out, B1.out⟩

theorem put_five8 {W : World} {B : Nat} {c0 c1 c2 c3 c4 : Value} {T : TypeId} (h : W.heap[B]? = some (.cells #[c0, c1, c2, c3, c4] T (0, 0))) (u0 u1 u2 u3 u4 : Value) :
    (W.setCells B 0 [u0, u1, u2, u3, u4]).heap[B]? = some (.cells #[u0, u1, u2, u3, u4] T (0, 0)) :=
  Joins.block_setCell (Joins.block_setCell (Joins.block_setCell (Joins.block_setCell (Joins.block_setCell h u0) u1) u2) u3) u4
/-- what the closure hands back -/
def putV (m : Mdl) (lp : Int) (s : Sta) (e : Evn) (x : Snt) (k : Nat) : Value :=
  if (laterSpec e.t (m.d (dlyN m.nd x.dl))).2 = 0 then .tuple #[.agg #[.float .f64 (laterSpec e.t (m.d (dlyN m.nd x.dl))).1, .int .i64 lp, .int .i64 (s.sent + (k : Int)), .int .i64 x.dst, .int .i64 x.pay], .bool true] else .tuple #[.agg #[.float .f64 0, .int .i64 0, .int .i64 0, .int .i64 0, .int .i64 0], .bool false]
set_option maxHeartbeats 3200000 in
theorem put8_any (m : Mdl) (ad : Option Addr) (cd : Nat) (ap : Option Addr) (cp : Nat) (al : Option Addr) (cl : Nat) (ai : Option Addr) (ci : Nat) (lp : Int) (s : Sta) (aI : Option Addr) (cI : Nat) (e : Evn) (B : Nat) (x : Snt) (k : Nat) (w : World) (h : SInv m ad cd ap cp al cl ai ci lp s aI cI e B w) (hd : Sl 1 (gF m.d) m.nd (.slice ad m.nd cd) w) (h0 : 0 < m.nd) (h8 : m.nd ≤ 8) (l1 : -9223372036854775808 ≤ s.sent + (k : Int)) (l2 : s.sent + (k : Int) ≤ 9223372036854775807) :
    Calls Tryz.prog 86 #[.int .i64 (k : Int), .agg #[.int .i64 x.dst, .int .i64 x.dl, .int .i64 x.pay], .pointer (some ⟨B + 3, 0, none⟩), .pointer (some ⟨B, 0, none⟩), .pointer (some ⟨B + 1, 0, none⟩), .pointer (some ⟨B + 2, 0, none⟩)] w fun r w' => r = .returned (putV m lp s e x k) ∧ Below w.heap.size w w' := by
  have hsf := store_float
  have XU : Hid (((w.alloc (.cells #[.int .i64 x.dst, .int .i64 x.dl, .int .i64 x.pay] 97)).alloc (.cells #[.float .f64 0, .int .i64 0, .int .i64 0, .int .i64 0, .int .i64 0] 41)).heap[w.heap.size]? = some (.cells #[.int .i64 x.dst, .int .i64 x.dl, .int .i64 x.pay] 97)) := (Below.heap_alloc _ _ _ (by rw [World.size_alloc]; omega)).trans (heap_alloc_new w _)
  have ZU : Hid (((w.alloc (.cells #[.int .i64 x.dst, .int .i64 x.dl, .int .i64 x.pay] 97)).alloc (.cells #[.float .f64 0, .int .i64 0, .int .i64 0, .int .i64 0, .int .i64 0] 41)).heap[w.heap.size + 1]? = some (.cells #[.float .f64 0, .int .i64 0, .int .i64 0, .int .i64 0, .int .i64 0] 41)) := by
    have := heap_alloc_new (w.alloc (.cells #[.int .i64 x.dst, .int .i64 x.dl, .int .i64 x.pay] 97)) (.cells #[.float .f64 0, .int .i64 0, .int .i64 0, .int .i64 0, .int .i64 0] 41)
    rwa [World.size_alloc] at this
  have LU := Lib.hid (bthen (balloc w (.cells #[.int .i64 x.dst, .int .i64 x.dl, .int .i64 x.pay] 97)) (balloc _ (.cells #[.float .f64 0, .int .i64 0, .int .i64 0, .int .i64 0, .int .i64 0] 41)))
  have IU := Lib.hid (h.below LU.out)
  have HDL : Hid (∀ u2, Below w.heap.size w u2 → Calls Tryz.prog 88 #[(.agg #[.int .i64 m.seed, .float .f64 m.fin, .slice ad m.nd cd, .slice ap m.np cp, .slice al m.nl cl, .slice ai m.ni ci]), .int .i64 x.dl] u2 fun e w' => e = .returned (.float .f64 (m.d (dlyN m.nd x.dl))) ∧ Below u2.heap.size u2 w') := fun u2 k => delay8_any m _ _ _ _ x.dl u2 (hd.below k) h0 h8
  have HLA := Lib.hid (later_any e.t (m.d (dlyN m.nd x.dl)))
  have EP : Hid (putV m lp s e x k = if (laterSpec e.t (m.d (dlyN m.nd x.dl))).2 = 0 then .tuple #[.agg #[.float .f64 (laterSpec e.t (m.d (dlyN m.nd x.dl))).1, .int .i64 lp, .int .i64 (s.sent + (k : Int)), .int .i64 x.dst, .int .i64 x.pay], .bool true] else .tuple #[.agg #[.float .f64 0, .int .i64 0, .int .i64 0, .int .i64 0, .int .i64 0], .bool false]) := rfl
  clear h hd h0 h8
  unfold feRet at HLA
  generalize putV m lp s e x k = res at *
  generalize m.d (dlyN m.nd x.dl) = dv at *
  generalize laterSpec e.t dv = ts at *
  obtain ⟨t, te⟩ := ts
  simp only at HLA EP
  generalize hu : ((w.alloc (.cells #[.int .i64 x.dst, .int .i64 x.dl, .int .i64 x.pay] 97)).alloc (.cells #[.float .f64 0, .int .i64 0, .int .i64 0, .int .i64 0, .int .i64 0] 41)) = u at *
  go_enter Tryz.func86, Tryz.ntmps86
  go_upto_region 1 with fail
  try rw [hu]
  clear hu
  have SS : ∀ u2, SInv m ad cd ap cp al cl ai ci lp s aI cI e B u2 → u2.heap[w.heap.size]? = some (.cells #[.int .i64 x.dst, .int .i64 x.dl, .int .i64 x.pay] 97) → (fun w' => w'.cell? ⟨B + 3, 0, none⟩ = some (.float .f64 e.t) ∧ w'.cell? ⟨B, 0, none⟩ = some (.int .i64 m.seed) ∧ w'.cell? ⟨B, 1, none⟩ = some (.float .f64 m.fin) ∧ w'.cell? ⟨B, 2, none⟩ = some (.slice ad m.nd cd) ∧ w'.cell? ⟨B, 3, none⟩ = some (.slice ap m.np cp) ∧ w'.cell? ⟨B, 4, none⟩ = some (.slice al m.nl cl) ∧ w'.cell? ⟨B, 5, none⟩ = some (.slice ai m.ni ci) ∧ w'.cell? ⟨w.heap.size, 1, none⟩ = some (.int .i64 x.dl)) u2 := fun u2 h1 h2 => by
    obtain ⟨q0, q1, q2, q3, q4, q5⟩ := six_cells7 h1.m
    obtain ⟨v0, v1, v2, v3, v4⟩ := five_cells8 h1.e
    obtain ⟨r0, r1, r2⟩ := three_cells8 h2
    exact ⟨v0, q0, q1, q2, q3, q4, q5, r1⟩
  have SS := Lib.hid SS
  have ID := Lib.hid (IU.out.below (bdrew u))
  have LD := Lib.hid LU.out.drew
  have XD : Hid (u.drew.heap[w.heap.size]? = some (.cells #[.int .i64 x.dst, .int .i64 x.dl, .int .i64 x.pay] 97)) := XU.out
  have ZD : Hid (u.drew.heap[w.heap.size + 1]? = some (.cells #[.float .f64 0, .int .i64 0, .int .i64 0, .int .i64 0, .int .i64 0] 41)) := ZU.out
  refine wp_region_held_drew (S := (fun w' => w'.cell? ⟨B + 3, 0, none⟩ = some (.float .f64 e.t) ∧ w'.cell? ⟨B, 0, none⟩ = some (.int .i64 m.seed) ∧ w'.cell? ⟨B, 1, none⟩ = some (.float .f64 m.fin) ∧ w'.cell? ⟨B, 2, none⟩ = some (.slice ad m.nd cd) ∧ w'.cell? ⟨B, 3, none⟩ = some (.slice ap m.np cp) ∧ w'.cell? ⟨B, 4, none⟩ = some (.slice al m.nl cl) ∧ w'.cell? ⟨B, 5, none⟩ = some (.slice ai m.ni ci) ∧ w'.cell? ⟨w.heap.size, 1, none⟩ = some (.int .i64 x.dl))) (by kernel_rfl) ?_ (fun hHeld => ?_)
  · exact SS.out _ ID.out XD.out
  change wpAnyH _ _ _ _ _ _ _ _ (World.drew u)
  clear XU ZU LU IU
  generalize u.drew = u0 at *
  first | refine tq0 0 rfl ?_ | refine tq1 0 rfl ?_
  try go_frame
  first | refine tq0 1 rfl ?_ | refine tq1 1 rfl ?_
  try go_frame
  first | refine tq0 2 rfl ?_ | refine tq1 2 rfl ?_
  try go_frame
  first | refine tq0 3 rfl ?_ | refine tq1 3 rfl ?_
  try go_frame
  first | refine tq0 4 rfl ?_ | refine tq1 4 rfl ?_
  try go_frame
  first | refine tq0 5 rfl ?_ | refine tq1 5 rfl ?_
  try go_frame
  refine wpAnyH_ready (rs := [6]) (by kernel_rfl) (by simp) ?_
  refine AllReadyH.cons (o := ⟨_, _, _, _, _, _⟩) rfl (fun K hK => ?_) AllReadyH.nil
  go_simp
  go_at_call 88
  refine (HDL.out _ LD.out).mono ?_
  rintro r w1 ⟨rfl, hb1⟩
  have I1 := Lib.hid (ID.out.below hb1)
  have L1 := Lib.hid (bthen LD.out hb1)
  have X1 := Lib.hid ((hb1.block _ (lt_of_block XD.out)).trans XD.out)
  have Z1 := Lib.hid ((hb1.block _ (lt_of_block ZD.out)).trans ZD.out)
  refine hK.out _ _ ?_ (fun hHeld => ?_)
  · exact SS.out _ I1.out X1.out
  clear hK K
  try go_frame
  refine wpAnyH_ready (rs := [7]) (by kernel_rfl) (by simp) ?_
  refine AllReadyH.cons (o := ⟨_, _, _, _, _, _⟩) rfl (fun K hK => ?_) AllReadyH.nil
  go_simp
  go_at_call 87
  refine (HLA.out _).mono ?_
  rintro r w2 ⟨rfl, hb2⟩
  have IU := Lib.hid (I1.out.below hb2)
  have LU := Lib.hid (bthen L1.out hb2)
  have XU := Lib.hid ((hb2.block _ (lt_of_block X1.out)).trans X1.out)
  have ZU := Lib.hid ((hb2.block _ (lt_of_block Z1.out)).trans Z1.out)
  refine hK.out _ _ ?_ (fun hHeld => ?_)
  · exact SS.out _ IU.out XU.out
  clear hK K
  try go_frame
  clear hb1 hb2 I1 L1 X1 Z1 ID LD XD ZD
  first | refine tq0 8 rfl ?_ | refine tq1 8 rfl ?_
  try go_frame
  first | refine tq0 9 rfl ?_ | refine tq1 9 rfl ?_
  try go_frame
  first | refine tq0 10 rfl ?_ | refine tq1 10 rfl ?_
  try go_frame
  first | refine tq0 11 rfl ?_ | refine tq1 11 rfl ?_
  try go_frame
  first | refine tq0 12 rfl ?_ | refine tq1 12 rfl ?_
  try go_frame
  refine wpAnyH_done (by kernel_rfl) ?_ _
  clear hHeld
  by_cases ht : te = 0
  · subst ht
    have hr := EP.out
    rw [if_pos rfl] at hr
    subst hr
    clear EP HLA HDL SS
    have IV := Lib.hid (IU.out.below (balloc w2 (.cells #[.float .f64 t, .int .i64 lp, .int .i64 (s.sent + (k : Int))] 39)))
    have LV := Lib.hid (bthen LU.out (balloc w2 (.cells #[.float .f64 t, .int .i64 lp, .int .i64 (s.sent + (k : Int))] 39)))
    have XV := Lib.hid ((Below.heap_alloc w2 (.cells #[.float .f64 t, .int .i64 lp, .int .i64 (s.sent + (k : Int))] 39) _ (lt_of_block XU.out)).trans XU.out)
    have ZV := Lib.hid ((Below.heap_alloc w2 (.cells #[.float .f64 t, .int .i64 lp, .int .i64 (s.sent + (k : Int))] 39) _ (lt_of_block ZU.out)).trans ZU.out)
    have TV := Lib.hid (heap_alloc_new w2 (.cells #[.float .f64 t, .int .i64 lp, .int .i64 (s.sent + (k : Int))] 39))
    obtain ⟨n0, n1, n2⟩ := three_cells8 IU.out.s
    have p0 : w2.cell? ⟨B + 1, 0, none⟩ = some (.int .i64 lp) := by rw [Lib.cell_of_heap IU.out.l]; rfl
    generalize hu : w2.alloc (.cells #[.float .f64 t, .int .i64 lp, .int .i64 (s.sent + (k : Int))] 39) = u3 at *
    go_upto_region 5 with fail
    try rw [hu]
    clear hu n0 n1 n2 p0 IU XU ZU LU
    have IU := IV
    have LU := LV
    have ZU := ZV
    generalize w2.heap.size = q3 at *
    obtain ⟨n0, n1, n2⟩ := three_cells8 XV.out
    obtain ⟨t0, t1, t2⟩ := three_cells8 TV.out
    obtain ⟨z0, z1, z2, z3, z4⟩ := five_cells8 ZU.out
    have zf : ∀ q, u3.frozen? ⟨w.heap.size + 1, q, none⟩ = false := fun q => Lib.frozen_of_heap ZU.out q
    go_wp2_with fail
    clear t0 t1 t2
    change bodyPost _ _ _ _ _ (World.setCells u3 (w.heap.size + 1) 0 [.float .f64 t, .int .i64 lp, .int .i64 (s.sent + (k : Int)), .int .i64 x.dst, .int .i64 x.pay])
    have h5 := put_five8 ZU.out (.float .f64 t) (.int .i64 lp) (.int .i64 (s.sent + (k : Int))) (.int .i64 x.dst) (.int .i64 x.pay)
    have LZ := Lib.hid (LU.out.trans (put_low7 (show w.heap.size ≤ w.heap.size + 1 by omega) [.float .f64 t, .int .i64 lp, .int .i64 (s.sent + (k : Int)), .int .i64 x.dst, .int .i64 x.pay] 0 u3))
    obtain ⟨t0, t1, t2, t3, t4⟩ := five_cells8 h5
    clear h5
    generalize World.setCells u3 (w.heap.size + 1) 0 [.float .f64 t, .int .i64 lp, .int .i64 (s.sent + (k : Int)), .int .i64 x.dst, .int .i64 x.pay] = w9 at *
    exact bodyPost_ret (v := .tuple #[.agg #[.float .f64 t, .int .i64 lp, .int .i64 (s.sent + (k : Int)), .int .i64 x.dst, .int .i64 x.pay], .bool true]) (by simp [results, Tryz.results86, go_sem, t0, t1, t2, t3, t4]) rfl ⟨rfl, LZ.out⟩
  · have dt : (te != 0) = true := by simp [ht]
    have hr := EP.out
    rw [if_neg ht] at hr
    subst hr
    clear EP ht HLA HDL SS
    obtain ⟨z0, z1, z2, z3, z4⟩ := five_cells8 ZU.out
    have zf : ∀ q, w2.frozen? ⟨w.heap.size + 1, q, none⟩ = false := fun q => Lib.frozen_of_heap ZU.out q
    go_wp2_with fail
    change bodyPost _ _ _ _ _ (World.setCells w2 (w.heap.size + 1) 0 [.float .f64 0, .int .i64 0, .int .i64 0, .int .i64 0, .int .i64 0])
    have h5 := put_five8 ZU.out (.float .f64 0) (.int .i64 0) (.int .i64 0) (.int .i64 0) (.int .i64 0)
    have LZ := Lib.hid (LU.out.trans (put_low7 (show w.heap.size ≤ w.heap.size + 1 by omega) [.float .f64 0, .int .i64 0, .int .i64 0, .int .i64 0, .int .i64 0] 0 w2))
    obtain ⟨t0, t1, t2, t3, t4⟩ := five_cells8 h5
    clear h5
    generalize World.setCells w2 (w.heap.size + 1) 0 [.float .f64 0, .int .i64 0, .int .i64 0, .int .i64 0, .int .i64 0] = w9 at *
    exact bodyPost_ret (v := .tuple #[.agg #[.float .f64 0, .int .i64 0, .int .i64 0, .int .i64 0, .int .i64 0], .bool false]) (by simp [results, Tryz.results86, go_sem, t0, t1, t2, t3, t4]) rfl ⟨rfl, LZ.out⟩

end Go.Proofs.YthkfaeplmmlnlaaGreat
