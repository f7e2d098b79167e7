/- The walks of PoolOne and PoolNone over what came in as the frames lay it. -/
import Derived.Test.YtmflkkkbahghgaaGreatYQPqOneW
import Derived.Test.YtmflkkkbahghgaaGreatYQPqNoneW
import Derived.Test.YtmflkkkbahghgaaGreatYZ33
namespace Go.Proofs.YtmflkkkbahghgaaGreat
open Go.RowKit Go.Deep
set_option linter.unusedVariables false
set_option maxRecDepth 100000

section
variable {PM : StM} {PF PC : FlM}
theorem poolOne_of (I : Sh14 PM PF PC) (x : Int) (n : Nat) (A : Nat → Int × Int × ByteArray) (ao : Option Addr) (cap : Nat) (y : Int) (W : World) (p1 : (Lit.int .u8 x).wf = true) (ha : SaAt W.heap.size n A ao cap W) (p2 : (Lit.int .u8 y).wf = true) :
    Calls Tryz.prog 3 #[.int .u8 x, .slice ao n cap, .int .u8 y] W fun r u' => r = .returned (.bool true) ∧ Below W.heap.size W u' := by
  obtain ⟨p, rfl, hp⟩ := u8_lt15 p1
  obtain ⟨q, rfl, hq⟩ := u8_lt15 p2
  exact one15_walk I p q hp hq n A ao cap W ha
theorem poolNone_of (I : Sh14 PM PF PC) (kind l : Int) (s : ByteArray) (n : Int) (W : World) (p1 : (Lit.int .i64 kind).wf = true) (p2 : (Lit.int .i64 l).wf = true) (p3 : s.size ≤ maxLen) (p4 : (Lit.int .i64 n).wf = true) :
    Calls Tryz.prog 6 #[.agg #[.int .i64 kind, .int .i64 l, .string s], .int .i64 n] W fun r u' => r = .returned (.bool true) ∧ Below W.heap.size W u' := none15_walk I kind l s p3 n W
end
end Go.Proofs.YtmflkkkbahghgaaGreat
