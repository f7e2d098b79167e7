/- The contract of model.Ins. -/
import Derived.Test.YtehdlpgopcoecaaModelIns2
namespace Go.Proofs.Ytehdlpgopcoecaa
open Go.RowKit
set_option linter.unusedVariables false

set_option maxHeartbeats 1600000 in
theorem ins_any (x : I4) (len : Int) (w : World) :
    Calls Try.prog 31 #[.agg #[.int .i64 x.op, .int .i64 x.a, .int .i64 x.b, .int .i64 x.c], .int .i64 len] w fun e w' => e = .returned (.bool (insB x len)) ∧ Below w.heap.size w w' := by
  have HM := Lib.hid (mayBeIn_box len)
  have HI := Lib.hid (fun q w (h : BoxI len q w) => mayI_any x len q w h.1 h.2)
  have HX := Lib.hid (Box4.new x 45 w)
  have HA := Lib.hid (balloc w (.cells #[.int .i64 x.op, .int .i64 x.a, .int .i64 x.b, .int .i64 x.c] 45))
  generalize insB x len = r at *
  obtain ⟨op, a, b, c⟩ := x
  dsimp only at *
  obtain ⟨_, x0, x1, x2, x3⟩ := HX.out
  dsimp only [Nat.zero_add] at x0 x1 x2 x3
  go_enter Try.func31, Try.ntmps31
  go_wp2_with fail
  go_region_held3 (fun w' => w'.cell? ⟨w.heap.size, 0, none⟩ = some (.int .i64 op) ∧ w'.cell? ⟨w.heap.size, 1, none⟩ = some (.int .i64 a) ∧ w'.cell? ⟨w.heap.size, 2, none⟩ = some (.int .i64 b) ∧ w'.cell? ⟨w.heap.size, 3, none⟩ = some (.int .i64 c)) (go_keep) (first
    | (go_at_call 38; refine (HM.out _).mono ?_; rintro e w2 ⟨q, rfl, HQ, hb2⟩; have X1 := (HX.out.below (bdrew _)).below hb2; obtain ⟨_, p0, p1, p2, p3⟩ := X1; dsimp only [Nat.zero_add] at p0 p1 p2 p3; have HQ2 := Lib.hid HQ; have HB2 := Lib.hid hb2; clear HQ hb2)
    | (go_at_call 45; refine (HI.out _ _ HQ2.out).mono ?_; rintro e w3 ⟨rfl, hb3⟩; have X2 := ((HX.out.below (bdrew _)).below HB2.out).below hb3; obtain ⟨_, p0, p1, p2, p3⟩ := X2; dsimp only [Nat.zero_add] at p0 p1 p2 p3))
  go_wp2_with fail
  go_ret
  exact ⟨rfl, bthen (bthen (bthen HA.out (bdrew _)) HB2.out) hb3⟩

end Go.Proofs.Ytehdlpgopcoecaa
