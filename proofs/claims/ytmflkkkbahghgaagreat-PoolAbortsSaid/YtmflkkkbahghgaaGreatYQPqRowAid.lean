/- The walk of PoolAborts over what came in as the frame lays it. -/
import Derived.Test.YtmflkkkbahghgaaGreatYZ33
namespace Go.Proofs.YtmflkkkbahghgaaGreat
open Go.RowKit Go.Deep
set_option linter.unusedVariables false
set_option maxRecDepth 100000

section
variable {PM : StM} {PF PC : FlM}
theorem poolAborts_of (I : Sh14 PM PF PC) (n : Nat) (A : Nat → Int × Int × ByteArray) (ao : Option Addr) (cap : Nat) (m : Nat) (M : Nat → Int × Int × ByteArray) (mo : Option Addr) (mcap : Nat) (W : World) (ha : SaAt W.heap.size n A ao cap W) (hm : SaAt W.heap.size m M mo mcap W) :
    Calls Tryz.prog 5 #[.slice ao n cap, .slice mo m mcap] W fun r u' => r = .returned (.bool true) ∧ Below W.heap.size W u' := aborts15_walk I n A ao cap m M mo mcap W ha hm
end
end Go.Proofs.YtmflkkkbahghgaaGreat
