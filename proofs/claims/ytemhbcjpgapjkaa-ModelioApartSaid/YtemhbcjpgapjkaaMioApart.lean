/- The walk of ModelioApart. -/
import Derived.Test.YtemhbcjpgapjkaaMioBack
namespace Go.Proofs.Ytemhbcjpgapjkaa
open Go.RowKit
set_option linter.unusedVariables false
set_option maxRecDepth 100000

set_option maxHeartbeats 3200000 in
theorem modelioApart_core (s1 s2 : Int) (f1 f2 : Nat) (d1 p1 l1 i1 d2 p2 l2 i2 : Value) (la lb : Bool) (x y : ByteArray) (ea eb : Int) (r : Bool) (w : World)
    (hea : ea = 0 ∨ ea = 15) (heb : eb = 0 ∨ eb = 15) (hr : ea = 0 → eb = 0 → decide (x = y) = r)
    (HL1 : Hid (∀ w2, Below w.heap.size w w2 → Calls Try.prog 8 #[.agg #[.int .i64 s1, .float .f64 f1, d1, p1, l1, i1]] w2 fun e w' => e = .returned (.bool la) ∧ Below w2.heap.size w2 w'))
    (HL2 : Hid (∀ w2, Below w.heap.size w w2 → Calls Try.prog 8 #[.agg #[.int .i64 s2, .float .f64 f2, d2, p2, l2, i2]] w2 fun e w' => e = .returned (.bool lb) ∧ Below w2.heap.size w2 w'))
    (HP1 : Hid (∀ w2, Below w.heap.size w w2 → Calls Try.prog 10 #[.agg #[.int .i64 s1, .float .f64 f1, d1, p1, l1, i1]] w2 fun e w' => e = .returned (.tuple #[.string x, .int .i64 ea]) ∧ Below w2.heap.size w2 w'))
    (HP2 : Hid (∀ w2, Below w.heap.size w w2 → Calls Try.prog 10 #[.agg #[.int .i64 s2, .float .f64 f2, d2, p2, l2, i2]] w2 fun e w' => e = .returned (.tuple #[.string y, .int .i64 eb]) ∧ Below w2.heap.size w2 w'))
    (HS : Hid (∀ w2, Below w.heap.size w w2 → Calls Try.prog 15 #[.agg #[.int .i64 s1, .float .f64 f1, d1, p1, l1, i1], .agg #[.int .i64 s2, .float .f64 f2, d2, p2, l2, i2]] w2 fun e w' => e = .returned (.bool r) ∧ Below w2.heap.size w2 w')) :
    Calls Try.prog 7 #[.agg #[.int .i64 s1, .float .f64 f1, d1, p1, l1, i1], .agg #[.int .i64 s2, .float .f64 f2, d2, p2, l2, i2]] w fun e w' => e = .returned (.bool true) ∧ Below w.heap.size w w' := by
  have HAW : Hid (∀ w2, Below w.heap.size w w2 → Calls Try.prog 9 #[] w2 fun e w' => e = .returned (.bool true) ∧ Below w2.heap.size w2 w') := fun w2 _ => awake6_any w2
  have HR := Lib.hid hr
  clear hr
  have X0 := Lib.hid ((Box6.new (.int .i64 s1) (.float .f64 f1) d1 p1 l1 i1 28 w).below (balloc _ (.cells #[.int .i64 s2, .float .f64 f2, d2, p2, l2, i2] 28)))
  have Y0 := Lib.hid (Box6.new (.int .i64 s2) (.float .f64 f2) d2 p2 l2 i2 28 (w.alloc (.cells #[.int .i64 s1, .float .f64 f1, d1, p1, l1, i1] 28)))
  have B0 := Lib.hid (low2 (w := w) (.cells #[.int .i64 s1, .float .f64 f1, d1, p1, l1, i1] 28) (.cells #[.int .i64 s2, .float .f64 f2, d2, p2, l2, i2] 28))
  rw [World.size_alloc] at Y0
  obtain ⟨_, x0, x1, x2, x3, x4, x5⟩ := X0.out
  obtain ⟨_, y0, y1, y2, y3, y4, y5⟩ := Y0.out
  go_enter Try.func7, Try.ntmps7
  go_wp2_with fail
  generalize (w.alloc (.cells #[.int .i64 s1, .float .f64 f1, d1, p1, l1, i1] 28)).alloc (.cells #[.int .i64 s2, .float .f64 f2, d2, p2, l2, i2] 28) = w0 at *
  cases la
  · refine (HL1.out _ B0.out).mono ?_
    rintro e w1 ⟨rfl, hb1⟩
    have B1 := Lib.hid (bthen B0.out hb1)
    clear hb1
    go_wp2_with fail
    refine (HAW.out _ B1.out).mono ?_
    rintro e w2 ⟨rfl, hb2⟩
    go_wp2_with fail
    go_ret
    exact ⟨rfl, bthen B1.out hb2⟩
  · refine (HL1.out _ B0.out).mono ?_
    rintro e w1 ⟨rfl, hb1⟩
    have B1 := Lib.hid (bthen (B0.out) hb1)
    have X1 := Lib.hid (X0.out.below hb1)
    have Y1 := Lib.hid (Y0.out.below hb1)
    obtain ⟨_, x0, x1, x2, x3, x4, x5⟩ := X1.out
    obtain ⟨_, y0, y1, y2, y3, y4, y5⟩ := Y1.out
    clear hb1
    go_wp2_with fail
    cases lb
    · refine (HL2.out _ B1.out).mono ?_
      rintro e w2 ⟨rfl, hb2⟩
      have B2 := Lib.hid (bthen B1.out hb2)
      clear hb2
      go_wp2_with fail
      refine (HAW.out _ B2.out).mono ?_
      rintro e w3 ⟨rfl, hb3⟩
      go_wp2_with fail
      go_ret
      exact ⟨rfl, bthen B2.out hb3⟩
    · refine (HL2.out _ B1.out).mono ?_
      rintro e w2 ⟨rfl, hb2⟩
      have B2 := Lib.hid (bthen (B1.out) hb2)
      have X2 := Lib.hid (X1.out.below hb2)
      have Y2 := Lib.hid (Y1.out.below hb2)
      obtain ⟨_, x0, x1, x2, x3, x4, x5⟩ := X2.out
      obtain ⟨_, y0, y1, y2, y3, y4, y5⟩ := Y2.out
      clear hb2
      go_wp2_with fail
      refine (HP1.out _ B2.out).mono ?_
      rintro e w3 ⟨rfl, hb3⟩
      have B3 := Lib.hid (bthen (B2.out) hb3)
      have X3 := Lib.hid (X2.out.below hb3)
      have Y3 := Lib.hid (Y2.out.below hb3)
      obtain ⟨_, x0, x1, x2, x3, x4, x5⟩ := X3.out
      obtain ⟨_, y0, y1, y2, y3, y4, y5⟩ := Y3.out
      clear hb3
      go_wp2_with fail
      refine (HP2.out _ B3.out).mono ?_
      rintro e w4 ⟨rfl, hb4⟩
      have B4 := Lib.hid (bthen (B3.out) hb4)
      have X4 := Lib.hid (X3.out.below hb4)
      have Y4 := Lib.hid (Y3.out.below hb4)
      obtain ⟨_, x0, x1, x2, x3, x4, x5⟩ := X4.out
      obtain ⟨_, y0, y1, y2, y3, y4, y5⟩ := Y4.out
      clear hb4
      go_wp2_with fail
      refine (HAW.out _ B4.out).mono ?_
      rintro e w5 ⟨rfl, hb5⟩
      have B5 := Lib.hid (bthen B4.out hb5)
      obtain ⟨_, x0, x1, x2, x3, x4, x5⟩ := X4.out.below hb5
      obtain ⟨_, y0, y1, y2, y3, y4, y5⟩ := Y4.out.below hb5
      clear hb5
      rcases hea with rfl | rfl
      · rcases heb with rfl | rfl
        · have hr := HR.out rfl rfl
          by_cases hxy : x = y
          · subst hxy
            obtain rfl : r = true := by simpa using hr.symm
            clear hr HR
            go_wp2_with (go_at_call 15; refine (HS.out _ B5.out).mono ?_; rintro e w6 ⟨rfl, hb6⟩; have B6 := Lib.hid (bthen B5.out hb6); clear hb6)
            go_ret
            exact ⟨rfl, B6.out⟩
          · obtain rfl : r = false := by rw [← hr]; simp [hxy]
            have hxy2 : (x.toList == y.toList) = false := by
              rw [ByteArray.toList_eq, ByteArray.toList_eq, beq_eq_false_iff_ne]
              exact fun h => hxy (Go.WideShapes.bytes_inj h)
            clear hr HR
            go_wp2_with (go_at_call 15; refine (HS.out _ B5.out).mono ?_; rintro e w6 ⟨rfl, hb6⟩; have B6 := Lib.hid (bthen B5.out hb6); clear hb6)
            go_ret
            exact ⟨rfl, B6.out⟩
        · go_wp2_with fail
          go_ret
          exact ⟨rfl, B5.out⟩
      · go_wp2_with fail
        go_ret
        exact ⟨rfl, B5.out⟩

theorem modelioApart_mdl (a : Mdl) (vd vp vl vi : Value) (b : Mdl) (vd2 vp2 vl2 vi2 : Value) (w : World) (ha : MdlAt a vd vp vl vi w) (ra : Rng a) (hb : MdlAt b vd2 vp2 vl2 vi2 w) (rb : Rng b) :
    Calls Try.prog 7 #[mval a vd vp vl vi, mval b vd2 vp2 vl2 vi2] w fun e w' => e = .returned (.bool true) ∧ Below w.heap.size w w' := by
  have ck : ∀ m, chkN m = 0 ∨ chkN m = 15 := fun m => by unfold chkN; cases mayB m <;> simp
  have good : ∀ m, chkN m = 0 → mayB m = true ∧ putS m = layM m := fun m h => by
    unfold chkN at h
    by_cases hm : mayB m = true
    · exact ⟨hm, by unfold putS; rw [if_pos hm]⟩
    · rw [if_neg hm] at h; cases h
  refine modelioApart_core a.seed b.seed a.fin b.fin vd vp vl vi vd2 vp2 vl2 vi2 (light6B a) (light6B b) (putS a) (putS b) (chkN a) (chkN b) (sameB a b) w (ck a) (ck b) (fun h1 h2 => ?_) (fun w2 k => light6_any a vd vp vl vi w2 (ha.below k)) (fun w2 k => light6_any b vd2 vp2 vl2 vi2 w2 (hb.below k))
    (fun w2 k => put_any a vd vp vl vi w2 (ha.below k)) (fun w2 k => put_any b vd2 vp2 vl2 vi2 w2 (hb.below k)) (fun w2 k => refSame_any a b vd vp vl vi vd2 vp2 vl2 vi2 w2 (ha.below k) (hb.below k))
  obtain ⟨g1, e1⟩ := good a h1
  obtain ⟨g2, e2⟩ := good b h2
  rw [e1, e2]
  exact apart_all ra rb g1 g2

end Go.Proofs.Ytemhbcjpgapjkaa
