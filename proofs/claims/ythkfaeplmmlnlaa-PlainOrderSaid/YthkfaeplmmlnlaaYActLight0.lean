/- The contract of the laws' Light: whatever it answers. -/
import Derived.Test.YthkfaeplmmlnlaaYZ10
namespace Go.Proofs.Ythkfaeplmmlnlaa
open Go.RowKit Go.Deep
set_option linter.unusedVariables false
set_option maxRecDepth 100000

set_option maxHeartbeats 1600000 in
theorem light8_any (m : Mdl) (vd vp vl vi : Value) (w : World) (hm : MdlAt m vd vp vl vi w) :
    Calls Try.prog 12 #[mval m vd vp vl vi] w fun e w' => ∃ b, e = .returned (.bool b) ∧ Below w.heap.size w w' := by
  obtain ⟨ad, cd, rfl, _, _, _⟩ := id hm.d
  obtain ⟨ai, ci, rfl, _, _, _⟩ := id hm.i
  obtain ⟨gp, hp1, hp2⟩ := id hm.p
  obtain ⟨ap, cp, rfl, mp1, mp2, kp⟩ := hp1
  obtain ⟨gl, hl1, hl2⟩ := id hm.l
  obtain ⟨al, cl, rfl, ml1, ml2, kl⟩ := hl1
  have KP := Lib.hid kp
  have KL := Lib.hid kl
  have HP := Lib.hid hp2
  have HL := Lib.hid hl2
  unfold mval
  have X1 := Lib.hid (heap_alloc_new w (.cells #[.int .i64 m.seed, .float .f64 m.fin, .slice ad m.nd cd, .slice ap m.np cp, .slice al m.nl cl, .slice ai m.ni ci] 28))
  have B1 := Lib.hid (balloc w (.cells #[.int .i64 m.seed, .float .f64 m.fin, .slice ad m.nd cd, .slice ap m.np cp, .slice al m.nl cl, .slice ai m.ni ci] 28))
  clear hm hp2 hl2 kp kl
  obtain ⟨m0, m1, m2, m3, m4, m5⟩ := six_cells7 X1.out
  go_enter Try.func12, Try.ntmps12
  go_upto_region 1 with fail
  generalize w.alloc (.cells #[.int .i64 m.seed, .float .f64 m.fin, .slice ad m.nd cd, .slice ap m.np cp, .slice al m.nl cl, .slice ai m.ni ci] 28) = u at *
  by_cases h1 : 10 < m.np
  · have d1 : decide ((10 : Int) < (m.np : Int)) = true := by simp; omega
    clear h1
    go_wp2_with fail
    go_ret
    exact ⟨_, rfl, B1.out⟩
  have d1 : decide ((10 : Int) < (m.np : Int)) = false := by simp; omega
  by_cases h2 : 20 < m.nl
  · have d2 : decide ((20 : Int) < (m.nl : Int)) = true := by simp; omega
    clear h1 h2
    go_wp2_with fail
    go_ret
    exact ⟨_, rfl, B1.out⟩
  have d2 : decide ((20 : Int) < (m.nl : Int)) = false := by simp; omega
  by_cases h3 : 60 < m.nd
  · have d3 : decide ((60 : Int) < (m.nd : Int)) = true := by simp; omega
    clear h1 h2 h3
    go_wp2_with fail
    go_ret
    exact ⟨_, rfl, B1.out⟩
  have d3 : decide ((60 : Int) < (m.nd : Int)) = false := by simp; omega
  by_cases h4 : 60 < m.ni
  · have d4 : decide ((60 : Int) < (m.ni : Int)) = true := by simp; omega
    clear h1 h2 h3 h4
    go_wp2_with fail
    go_ret
    exact ⟨_, rfl, B1.out⟩
  have d4 : decide ((60 : Int) < (m.ni : Int)) = false := by simp; omega
  clear h1 h2 h3 h4
  go_wp2_with fail
  go_loopw [3] (fun x wr => ∃ j : Nat, j ≤ m.np ∧ x = .int .i64 j ∧ wr = u) (fun x _ => m.np - (intOf x).toNat)
  case atStart => exact ⟨0, Nat.zero_le _, rfl, rfl⟩
  case round =>
    obtain ⟨j, hj, rfl, hw⟩ := hrel
    subst wr
    by_cases hlt : j < m.np
    · obtain ⟨b, o, rfl, hat⟩ := KP.out (by omega)
      have c0 := (hat.below B1.out).one j hlt
      simp only [gV] at c0
      obtain ⟨aq, cq, eq, _⟩ := HP.out j hlt
      rw [eq] at c0
      have hj2 : (j : Int) < (m.np : Int) := by omega
      have hj0 : (0 : Int) ≤ (j : Int) := by omega
      have hjt : ((j : Nat) : Int).toNat = j := by omega
      clear hat eq
      by_cases hq : 100 < m.pl j
      · have dq : decide ((100 : Int) < (m.pl j : Int)) = true := by simp; omega
        clear hq
        go_wp2_with fail
        go_ret
        exact ⟨_, rfl, B1.out⟩
      · have dq : decide ((100 : Int) < (m.pl j : Int)) = false := by simp; omega
        clear hq
        go_wp2_with fail
        go_roundw
        case rel => exact ⟨j + 1, by omega, by go_num, trivial⟩
        case measure => simp [intOf]; omega
    · obtain rfl : j = m.np := by omega
      go_wp2_with fail
      go_loopw [4] (fun x wr => ∃ j : Nat, j ≤ m.nl ∧ x = .int .i64 j ∧ wr = u) (fun x _ => m.nl - (intOf x).toNat)
      case atStart => exact ⟨0, Nat.zero_le _, rfl, rfl⟩
      case round =>
        obtain ⟨j, hj, rfl, hw⟩ := hrel
        subst wr
        by_cases hlt : j < m.nl
        · obtain ⟨b, o, rfl, hat⟩ := KL.out (by omega)
          obtain ⟨c1, c0⟩ := (hat.below B1.out).two j hlt
          simp only [gL] at c0
          obtain ⟨aq, cq, eq, _⟩ := HL.out j hlt
          rw [eq] at c0
          have hj2 : (j : Int) < (m.nl : Int) := by omega
          have hj0 : (0 : Int) ≤ (j : Int) := by omega
          have hjt : ((j : Nat) : Int).toNat = j := by omega
          clear hat eq
          by_cases hq : 60 < m.wl j
          · have dq : decide ((60 : Int) < (m.wl j : Int)) = true := by simp; omega
            clear hq
            go_wp2_with fail
            go_ret
            exact ⟨_, rfl, B1.out⟩
          · have dq : decide ((60 : Int) < (m.wl j : Int)) = false := by simp; omega
            clear hq
            go_wp2_with fail
            go_roundw
            case rel => exact ⟨j + 1, by omega, by go_num, trivial⟩
            case measure => simp [intOf]; omega
        · obtain rfl : j = m.nl := by omega
          go_wp2_with fail
          go_ret
          exact ⟨_, rfl, B1.out⟩

end Go.Proofs.Ythkfaeplmmlnlaa
