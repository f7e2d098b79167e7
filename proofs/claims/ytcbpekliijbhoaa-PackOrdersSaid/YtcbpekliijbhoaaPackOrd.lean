/- The walk of the law PackOrders: the bytes of a lesser number are less. -/
import Derived.Test.YtcbpekliijbhoaaPackLaws
import Derived.Test.YtcbpekliijbhoaaPackOrdMath
import Derived.Deep.QuietTactic
import Derived.BigQuiet
namespace Go.Proofs.Ytcbpekliijbhoaa
open Go.RowKit

set_option maxHeartbeats 400000 in
theorem packOrders_core (a b c d : Int) (x y u v : ByteArray) (w : World)
    (H1 : Hid (∀ w, Calls Try.prog 10 #[.int .u64 a] w fun e w' => e = .returned (.string x) ∧ Below w.heap.size w w'))
    (H2 : Hid (∀ w, Calls Try.prog 10 #[.int .u64 b] w fun e w' => e = .returned (.string y) ∧ Below w.heap.size w w'))
    (H3 : Hid (∀ w, Calls Try.prog 12 #[.int .i64 c] w fun e w' => e = .returned (.string u) ∧ Below w.heap.size w w'))
    (H4 : Hid (∀ w, Calls Try.prog 12 #[.int .i64 d] w fun e w' => e = .returned (.string v) ∧ Below w.heap.size w w'))
    (f1 : (decide (a < b) == Op.bytesLess x.toList y.toList) = true) (f2 : (decide (c < d) == Op.bytesLess u.toList v.toList) = true) (f3 : ((a == b) == (x.toList == y.toList)) = true) :
    Calls Try.prog 8 #[.agg #[.int .u64 a, .int .u64 b, .int .i64 c, .int .i64 d]] w fun e w' => e = .returned (.bool true) ∧ Below w.heap.size w w' := by
  go_enter Try.func8, Try.ntmps8
  go_wp2_with fail
  go_quiet (fail)
  go_wp2_with fail
  refine (awake_any _).mono ?_
  rintro e w1 ⟨rfl, hb1⟩
  go_wp2_with fail
  refine (H1.out _).mono ?_
  rintro e w2 ⟨rfl, hb2⟩
  go_wp2_with fail
  refine (H2.out _).mono ?_
  rintro e w3 ⟨rfl, hb3⟩
  go_wp2_with fail
  refine (H3.out _).mono ?_
  rintro e w4 ⟨rfl, hb4⟩
  go_wp2_with fail
  refine (H4.out _).mono ?_
  rintro e w5 ⟨rfl, hb5⟩
  go_wp2_with fail
  refine (H1.out _).mono ?_
  rintro e w6 ⟨rfl, hb6⟩
  go_wp2_with fail
  refine (H2.out _).mono ?_
  rintro e w7 ⟨rfl, hb7⟩
  go_wp2_with fail
  go_ret
  exact ⟨rfl, bthen (bthen (bthen (bthen (bthen (bthen (bthen (bdrewN (balloc _ _) _) hb1) hb2) hb3) hb4) hb5) hb6) hb7⟩

theorem packOrders_walk (a b c d : Int) (w : World) (ha : (Lit.int .u64 a).wf = true) (hb : (Lit.int .u64 b).wf = true) (hc : (Lit.int .i64 c).wf = true) (hd : (Lit.int .i64 d).wf = true) :
    Calls Try.prog 8 #[.agg #[.int .u64 a, .int .u64 b, .int .i64 c, .int .i64 d]] w fun e w' => e = .returned (.bool true) ∧ Below w.heap.size w w' := by
  have ba := u64_bd ha
  have bb := u64_bd hb
  have bc := i64_bd hc
  have bd := i64_bd hd
  refine packOrders_core a b c d _ _ _ _ w (packU a) (packU b) (packI c) (packI d) ?_ ?_ ?_
  · rw [less_8 a b ba.1 ba.2 bb.1 bb.2]; simp
  · rw [flip63_lt c d bc.1 bc.2 bd.1 bd.2]; simp
  · rw [eq_8 a b ba.1 ba.2 bb.1 bb.2]; simp

end Go.Proofs.Ytcbpekliijbhoaa
