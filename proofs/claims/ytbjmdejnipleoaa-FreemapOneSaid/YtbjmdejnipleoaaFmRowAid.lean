/- The walks of stage 12's laws over what came in as the frames lay it. -/
import Derived.Test.YtbjmdejnipleoaaFmDoesW
import Derived.Test.YtbjmdejnipleoaaFmOneW
import Derived.Test.YtbjmdejnipleoaaFmKeptW
import Derived.Test.YtbjmdejnipleoaaFmAbortsW
import Derived.Test.YtbjmdejnipleoaaFmNoneW
import Derived.Test.YtbjmdejnipleoaaFmFrameAid
namespace Go.Proofs.Ytbjmdejnipleoaa
open Go.RowKit Go.Deep
set_option linter.unusedVariables false
set_option maxRecDepth 100000

section
variable {PM : PMap}
theorem freemapDoes_of (I : Fm12 PM) (x : Int) (n : Nat) (A : Nat → Int × Int) (ao : Option Addr) (cap : Nat) (o : Int) (W : World) (p1 : (Lit.int .i64 x).wf = true) (ha : FasAt W.heap.size n A ao cap W) (p2 : (Lit.int .i64 o).wf = true) :
    Calls Try.prog 3 #[.int .i64 x, .slice ao n cap, .int .i64 o] W fun r u' => r = .returned (.bool true) ∧ Below W.heap.size W u' := does12_walk I x n A ao cap o W ha
theorem freemapNone_of (I : Fm12 PM) (N : Fm12N) (i : Int) (W : World) (p1 : (Lit.int .i64 i).wf = true) :
    Calls Try.prog 7 #[.int .i64 i] W fun r u' => r = .returned (.bool true) ∧ Below W.heap.size W u' := none12_walk I N i W
end

end Go.Proofs.Ytbjmdejnipleoaa
