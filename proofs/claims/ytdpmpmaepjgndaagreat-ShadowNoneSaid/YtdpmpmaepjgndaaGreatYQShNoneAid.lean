/- The walk of stage 14's law of no store over what came in as the frame lays it. -/
import Derived.Test.YtdpmpmaepjgndaaGreatYQShNoneW
namespace Go.Proofs.YtdpmpmaepjgndaaGreat
open Go.RowKit Go.Deep
set_option linter.unusedVariables false
set_option maxRecDepth 100000

section
variable {PM : StM} {PF PC : FlM}
theorem shadowNone_from (I : Sh14 PM PF PC) (N : Sh14N) (kind l : Int) (s : ByteArray) (W : World) (p1 : (Lit.int .i64 kind).wf = true) (p2 : (Lit.int .i64 l).wf = true) (p3 : s.size ≤ maxLen) :
    Calls Tryz.prog 7 #[.agg #[.int .i64 kind, .int .i64 l, .string s]] W fun r u' => r = .returned (.bool true) ∧ Below W.heap.size W u' := none14_walk I N kind l s W
end

end Go.Proofs.YtdpmpmaepjgndaaGreat
