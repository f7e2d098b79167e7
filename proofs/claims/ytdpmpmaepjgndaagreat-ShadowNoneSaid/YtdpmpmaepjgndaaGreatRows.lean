/-
  No cell of these rows narrows 'for every input' (looked for: loops, veiled, ifaces, maps, wideKeys, modest, calm, conditions, laid).
  DERIVED. THE GIVEN ROWS OF THIS SEAT. 5 by the template 'for every input the law returns true; each argument reads behind the call as it read before'; 0 by the template 'total and deterministic' (their statements: YtdpmpmaepjgndaaGreatTotals.lean).
  GIVEN WITH THE SEED: the statements are not yours to turn. If you find one false, say at which input.
  Laid BY PROGRAM, IN A SANDBOX (cutbox-rows.mjs): the forced cells as the released guide's own fill.sh prints them over the translation 5a86deda1657905b… (all of the seat's roots in one cut). By AI agents, Wed Nov 11 2026. No macro, syntax, notation, axiom, sorry.
-/
import Derived.Test.YtdpmpmaepjgndaaGreatChecked
import GoSem.Claim
import GoSem.ClaimJoined
import GoSem.ClaimMapViews
import Derived.JoinedTies
import Derived.KernelRfl
namespace Go.Proofs.YtdpmpmaepjgndaaGreat
/- THE CELL 'sum', in the pinned program and in every row, IS THE sha256 OF THE DUMP (.gsa) THAT YtdpmpmaepjgndaaGreatProg.lean LOADS. Nothing in Lean hashes anything: it is a label: what it is worth is what the hold of that sum in a sandbox is worth. -/
noncomputable def Tryz.pinned : Pinned := { name := "ytdpmpmaepjgndaagreat", sum := "5a86deda1657905bc8de0e300b17a7b26063c48bf398aef5b168a50b91d55bda", checked := Tryz.checked }
namespace Rows
def none {H : Type} : Left H := { results := [], args := [] }

/-- 'horologelaw14.ShadowDoes': WHATEVER THE INPUT: true; the input reads as it did. -/
def shadowDoesSpec : ChangeSpec := { name := "shadowDoes", fn := fun _ => fun
  | [d1, d2] => { results := [.lit (.bool true)], args := [d1, d2] }
  | _ => none }
def shadowDoesRow : OpenClaim := { program := "ytdpmpmaepjgndaagreat", sum := "5a86deda1657905bc8de0e300b17a7b26063c48bf398aef5b168a50b91d55bda", func := "horologe/horologelaw14.ShadowDoes", spec := "shadowDoes", inPlace := ["internal/abi.NoEscape", "internal/bytealg.MakeNoZero"], unfollowed := true, recurses := true, apart := false }
def ShadowDoesSaid : Prop := shadowDoesRow.holds Tryz.pinned (OpenSpec.ofChange shadowDoesSpec)

/-- ITS FALSE NEIGHBOUR: 'it returns false'. Refute it at one input. -/
def shadowDoesWrong : ChangeSpec := { name := "shadowDoes", fn := fun _ => fun
  | [d1, d2] => { results := [.lit (.bool false)], args := [d1, d2] }
  | _ => none }
def ShadowDoesWrongFalsely : Prop := shadowDoesRow.holds Tryz.pinned (OpenSpec.ofChange shadowDoesWrong)

/-- 'horologelaw14.ShadowOnce': WHATEVER THE INPUT: true; the input reads as it did. -/
def shadowOnceSpec : ChangeSpec := { name := "shadowOnce", fn := fun _ => fun
  | [d] => { results := [.lit (.bool true)], args := [d] }
  | _ => none }
def shadowOnceRow : OpenClaim := { program := "ytdpmpmaepjgndaagreat", sum := "5a86deda1657905bc8de0e300b17a7b26063c48bf398aef5b168a50b91d55bda", func := "horologe/horologelaw14.ShadowOnce", spec := "shadowOnce", inPlace := ["internal/abi.NoEscape", "internal/bytealg.MakeNoZero"], unfollowed := true, recurses := true, apart := false }
def ShadowOnceSaid : Prop := shadowOnceRow.holds Tryz.pinned (OpenSpec.ofChange shadowOnceSpec)

/-- ITS FALSE NEIGHBOUR: 'it returns false'. Refute it at one input. -/
def shadowOnceWrong : ChangeSpec := { name := "shadowOnce", fn := fun _ => fun
  | [d] => { results := [.lit (.bool false)], args := [d] }
  | _ => none }
def ShadowOnceWrongFalsely : Prop := shadowOnceRow.holds Tryz.pinned (OpenSpec.ofChange shadowOnceWrong)

/-- 'horologelaw14.ShadowCrash': WHATEVER THE INPUT: true; the input reads as it did. -/
def shadowCrashSpec : ChangeSpec := { name := "shadowCrash", fn := fun _ => fun
  | [d] => { results := [.lit (.bool true)], args := [d] }
  | _ => none }
def shadowCrashRow : OpenClaim := { program := "ytdpmpmaepjgndaagreat", sum := "5a86deda1657905bc8de0e300b17a7b26063c48bf398aef5b168a50b91d55bda", func := "horologe/horologelaw14.ShadowCrash", spec := "shadowCrash", inPlace := ["internal/abi.NoEscape", "internal/bytealg.MakeNoZero"], unfollowed := true, recurses := true, apart := false }
def ShadowCrashSaid : Prop := shadowCrashRow.holds Tryz.pinned (OpenSpec.ofChange shadowCrashSpec)

/-- ITS FALSE NEIGHBOUR: 'it returns false'. Refute it at one input. -/
def shadowCrashWrong : ChangeSpec := { name := "shadowCrash", fn := fun _ => fun
  | [d] => { results := [.lit (.bool false)], args := [d] }
  | _ => none }
def ShadowCrashWrongFalsely : Prop := shadowCrashRow.holds Tryz.pinned (OpenSpec.ofChange shadowCrashWrong)

/-- 'horologelaw14.ShadowImages': WHATEVER THE INPUT: true; the input reads as it did. -/
def shadowImagesSpec : ChangeSpec := { name := "shadowImages", fn := fun _ => fun
  | [d] => { results := [.lit (.bool true)], args := [d] }
  | _ => none }
def shadowImagesRow : OpenClaim := { program := "ytdpmpmaepjgndaagreat", sum := "5a86deda1657905bc8de0e300b17a7b26063c48bf398aef5b168a50b91d55bda", func := "horologe/horologelaw14.ShadowImages", spec := "shadowImages", inPlace := ["internal/abi.NoEscape", "internal/bytealg.MakeNoZero"], unfollowed := true, recurses := true, apart := false }
def ShadowImagesSaid : Prop := shadowImagesRow.holds Tryz.pinned (OpenSpec.ofChange shadowImagesSpec)

/-- ITS FALSE NEIGHBOUR: 'it returns false'. Refute it at one input. -/
def shadowImagesWrong : ChangeSpec := { name := "shadowImages", fn := fun _ => fun
  | [d] => { results := [.lit (.bool false)], args := [d] }
  | _ => none }
def ShadowImagesWrongFalsely : Prop := shadowImagesRow.holds Tryz.pinned (OpenSpec.ofChange shadowImagesWrong)

/-- 'horologelaw14.ShadowNone': WHATEVER THE INPUT: true; the input reads as it did. -/
def shadowNoneSpec : ChangeSpec := { name := "shadowNone", fn := fun _ => fun
  | [d] => { results := [.lit (.bool true)], args := [d] }
  | _ => none }
def shadowNoneRow : OpenClaim := { program := "ytdpmpmaepjgndaagreat", sum := "5a86deda1657905bc8de0e300b17a7b26063c48bf398aef5b168a50b91d55bda", func := "horologe/horologelaw14.ShadowNone", spec := "shadowNone", inPlace := ["internal/abi.NoEscape", "internal/bytealg.MakeNoZero"], unfollowed := true, recurses := true, apart := false }
def ShadowNoneSaid : Prop := shadowNoneRow.holds Tryz.pinned (OpenSpec.ofChange shadowNoneSpec)

/-- ITS FALSE NEIGHBOUR: 'it returns false'. Refute it at one input. -/
def shadowNoneWrong : ChangeSpec := { name := "shadowNone", fn := fun _ => fun
  | [d] => { results := [.lit (.bool false)], args := [d] }
  | _ => none }
def ShadowNoneWrongFalsely : Prop := shadowNoneRow.holds Tryz.pinned (OpenSpec.ofChange shadowNoneWrong)

/- THE SECOND FORM. 'bulk': how many values and letters a reading holds, each counted each time it is reached (what is shared counts as often as it is met; a slice's spare places count too). A statement '..UptoSaid' is the law's where the arguments, and the package variables that the reading takes, are together of bulk at most 1048576: NARROWER than '..Said'. Prove '..Said' where nothing that the law and all that it calls make is longer than what came in: it says more and counts as full. Else prove '..UptoSaid'. A law counts once. -/
mutual
def uptoBulk {H : Type} : DataW H → Nat
  | .lit (.string bytes) => bytes.length + 1
  | .lit _ => 1
  | .nil => 1
  | .ptr d => uptoBulk d + 1
  | .slice elems spare => uptoBulkAll elems + uptoBulkAll spare + 1
  | .agg parts => uptoBulkAll parts + 1
  | .iface _ d => uptoBulk d + 1
  | .map entries => uptoBulkEntries entries + 1
  | .held _ => 1
def uptoBulkAll {H : Type} : List (DataW H) → Nat
  | [] => 0
  | d :: r => uptoBulk d + uptoBulkAll r
def uptoBulkEntries {H : Type} : List (Lit × DataW H) → Nat
  | [] => 0
  | x :: r => uptoBulkEntry x + uptoBulkEntries r
def uptoBulkEntry {H : Type} : Lit × DataW H → Nat
  | (.string bytes, d) => bytes.length + uptoBulk d + 1
  | (_, d) => uptoBulk d + 1
 end
def uptoSmall : (H : Type) → List (DataW H) → Bool := fun _ ds => decide (uptoBulkAll ds ≤ 1048576)
def OpenSpec.upto (s : _root_.Go.ChangeSpec) : _root_.Go.OpenSpec := { _root_.Go.OpenSpec.ofChange s with cond := some uptoSmall }

/-- 'horologelaw14.ShadowDoes', WHERE WHAT IT READS IS OF BULK AT MOST 1048576: true; the input reads as it did. -/
def shadowDoesUptoRow : OpenClaim := { program := "ytdpmpmaepjgndaagreat", sum := "5a86deda1657905bc8de0e300b17a7b26063c48bf398aef5b168a50b91d55bda", func := "horologe/horologelaw14.ShadowDoes", spec := "shadowDoes", inPlace := ["internal/abi.NoEscape", "internal/bytealg.MakeNoZero"], unfollowed := true, recurses := true, apart := false, narrowed := true }
def ShadowDoesUptoSaid : Prop := shadowDoesUptoRow.holds Tryz.pinned (OpenSpec.upto shadowDoesSpec)

/-- 'horologelaw14.ShadowOnce', WHERE WHAT IT READS IS OF BULK AT MOST 1048576: true; the input reads as it did. -/
def shadowOnceUptoRow : OpenClaim := { program := "ytdpmpmaepjgndaagreat", sum := "5a86deda1657905bc8de0e300b17a7b26063c48bf398aef5b168a50b91d55bda", func := "horologe/horologelaw14.ShadowOnce", spec := "shadowOnce", inPlace := ["internal/abi.NoEscape", "internal/bytealg.MakeNoZero"], unfollowed := true, recurses := true, apart := false, narrowed := true }
def ShadowOnceUptoSaid : Prop := shadowOnceUptoRow.holds Tryz.pinned (OpenSpec.upto shadowOnceSpec)

/-- 'horologelaw14.ShadowCrash', WHERE WHAT IT READS IS OF BULK AT MOST 1048576: true; the input reads as it did. -/
def shadowCrashUptoRow : OpenClaim := { program := "ytdpmpmaepjgndaagreat", sum := "5a86deda1657905bc8de0e300b17a7b26063c48bf398aef5b168a50b91d55bda", func := "horologe/horologelaw14.ShadowCrash", spec := "shadowCrash", inPlace := ["internal/abi.NoEscape", "internal/bytealg.MakeNoZero"], unfollowed := true, recurses := true, apart := false, narrowed := true }
def ShadowCrashUptoSaid : Prop := shadowCrashUptoRow.holds Tryz.pinned (OpenSpec.upto shadowCrashSpec)

/-- 'horologelaw14.ShadowImages', WHERE WHAT IT READS IS OF BULK AT MOST 1048576: true; the input reads as it did. -/
def shadowImagesUptoRow : OpenClaim := { program := "ytdpmpmaepjgndaagreat", sum := "5a86deda1657905bc8de0e300b17a7b26063c48bf398aef5b168a50b91d55bda", func := "horologe/horologelaw14.ShadowImages", spec := "shadowImages", inPlace := ["internal/abi.NoEscape", "internal/bytealg.MakeNoZero"], unfollowed := true, recurses := true, apart := false, narrowed := true }
def ShadowImagesUptoSaid : Prop := shadowImagesUptoRow.holds Tryz.pinned (OpenSpec.upto shadowImagesSpec)

/-- 'horologelaw14.ShadowNone', WHERE WHAT IT READS IS OF BULK AT MOST 1048576: true; the input reads as it did. -/
def shadowNoneUptoRow : OpenClaim := { program := "ytdpmpmaepjgndaagreat", sum := "5a86deda1657905bc8de0e300b17a7b26063c48bf398aef5b168a50b91d55bda", func := "horologe/horologelaw14.ShadowNone", spec := "shadowNone", inPlace := ["internal/abi.NoEscape", "internal/bytealg.MakeNoZero"], unfollowed := true, recurses := true, apart := false, narrowed := true }
def ShadowNoneUptoSaid : Prop := shadowNoneUptoRow.holds Tryz.pinned (OpenSpec.upto shadowNoneSpec)

end Rows
end Go.Proofs.YtdpmpmaepjgndaaGreat
