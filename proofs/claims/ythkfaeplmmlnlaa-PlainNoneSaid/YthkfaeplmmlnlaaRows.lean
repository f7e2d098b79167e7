/-
  No cell of these rows narrows 'for every input' (looked for: loops, veiled, ifaces, maps, wideKeys, modest, calm, conditions, laid).
  DERIVED. THE GIVEN ROWS OF THIS SEAT. 9 by the template 'for every input the law returns true; each argument reads behind the call as it read before'; 0 by the template 'total and deterministic' (their statements: YthkfaeplmmlnlaaTotals.lean).
  GIVEN WITH THE SEED: the statements are not yours to turn. If you find one false, say at which input.
  Laid BY PROGRAM, IN A SANDBOX (cutbox-rows.mjs): the forced cells as the released guide's own fill.sh prints them over the translation 72c344c7a1c64c81… (all of the seat's roots in one cut). By AI agents, Wed Nov 11 2026. No macro, syntax, notation, axiom, sorry.
-/
import Derived.Test.YthkfaeplmmlnlaaChecked
import GoSem.Claim
import GoSem.ClaimJoined
import GoSem.ClaimMapViews
import Derived.JoinedTies
import Derived.KernelRfl
namespace Go.Proofs.Ythkfaeplmmlnlaa
/- THE CELL 'sum', in the pinned program and in every row, IS THE sha256 OF THE DUMP (.gsa) THAT YthkfaeplmmlnlaaProg.lean LOADS. Nothing in Lean hashes anything: it is a label: what it is worth is what the hold of that sum in a sandbox is worth. -/
noncomputable def Try.pinned : Pinned := { name := "ythkfaeplmmlnlaa", sum := "72c344c7a1c64c811ae11fa330d40e8ffa117484945786158e9c6aa500651fe7", checked := Try.checked }
namespace Rows
def none {H : Type} : Left H := { results := [], args := [] }

/-- 'horologelaw08.ActBegins': WHATEVER THE INPUT: true; the input reads as it did. -/
def actBeginsSpec : ChangeSpec := { name := "actBegins", fn := fun _ => fun
  | [d1, d2] => { results := [.lit (.bool true)], args := [d1, d2] }
  | _ => none }
def actBeginsRow : OpenClaim := { program := "ythkfaeplmmlnlaa", sum := "72c344c7a1c64c811ae11fa330d40e8ffa117484945786158e9c6aa500651fe7", func := "horologe/horologelaw08.ActBegins", spec := "actBegins", inPlace := ["math.Float64bits"], unfollowed := true, recurses := true, apart := false }
def ActBeginsSaid : Prop := actBeginsRow.holds Try.pinned (OpenSpec.ofChange actBeginsSpec)

/-- ITS FALSE NEIGHBOUR: 'it returns false'. Refute it at one input. -/
def actBeginsWrong : ChangeSpec := { name := "actBegins", fn := fun _ => fun
  | [d1, d2] => { results := [.lit (.bool false)], args := [d1, d2] }
  | _ => none }
def ActBeginsWrongFalsely : Prop := actBeginsRow.holds Try.pinned (OpenSpec.ofChange actBeginsWrong)

/-- 'horologelaw08.ActHandles': WHATEVER THE INPUT: true; the input reads as it did. -/
def actHandlesSpec : ChangeSpec := { name := "actHandles", fn := fun _ => fun
  | [d] => { results := [.lit (.bool true)], args := [d] }
  | _ => none }
def actHandlesRow : OpenClaim := { program := "ythkfaeplmmlnlaa", sum := "72c344c7a1c64c811ae11fa330d40e8ffa117484945786158e9c6aa500651fe7", func := "horologe/horologelaw08.ActHandles", spec := "actHandles", inPlace := ["math.Float64bits"], unfollowed := true, recurses := true, apart := false }
def ActHandlesSaid : Prop := actHandlesRow.holds Try.pinned (OpenSpec.ofChange actHandlesSpec)

/-- ITS FALSE NEIGHBOUR: 'it returns false'. Refute it at one input. -/
def actHandlesWrong : ChangeSpec := { name := "actHandles", fn := fun _ => fun
  | [d] => { results := [.lit (.bool false)], args := [d] }
  | _ => none }
def ActHandlesWrongFalsely : Prop := actHandlesRow.holds Try.pinned (OpenSpec.ofChange actHandlesWrong)

/-- 'horologelaw08.ActLater': WHATEVER THE INPUT: true; the input reads as it did. -/
def actLaterSpec : ChangeSpec := { name := "actLater", fn := fun _ => fun
  | [d] => { results := [.lit (.bool true)], args := [d] }
  | _ => none }
def actLaterRow : OpenClaim := { program := "ythkfaeplmmlnlaa", sum := "72c344c7a1c64c811ae11fa330d40e8ffa117484945786158e9c6aa500651fe7", func := "horologe/horologelaw08.ActLater", spec := "actLater", unfollowed := true, recurses := true, apart := false }
def ActLaterSaid : Prop := actLaterRow.holds Try.pinned (OpenSpec.ofChange actLaterSpec)

/-- ITS FALSE NEIGHBOUR: 'it returns false'. Refute it at one input. -/
def actLaterWrong : ChangeSpec := { name := "actLater", fn := fun _ => fun
  | [d] => { results := [.lit (.bool false)], args := [d] }
  | _ => none }
def ActLaterWrongFalsely : Prop := actLaterRow.holds Try.pinned (OpenSpec.ofChange actLaterWrong)

/-- 'horologelaw08.ActOrders': WHATEVER THE INPUT: true; the input reads as it did. -/
def actOrdersSpec : ChangeSpec := { name := "actOrders", fn := fun _ => fun
  | [d1, d2, d3] => { results := [.lit (.bool true)], args := [d1, d2, d3] }
  | _ => none }
def actOrdersRow : OpenClaim := { program := "ythkfaeplmmlnlaa", sum := "72c344c7a1c64c811ae11fa330d40e8ffa117484945786158e9c6aa500651fe7", func := "horologe/horologelaw08.ActOrders", spec := "actOrders", unfollowed := true, recurses := true, apart := false }
def ActOrdersSaid : Prop := actOrdersRow.holds Try.pinned (OpenSpec.ofChange actOrdersSpec)

/-- ITS FALSE NEIGHBOUR: 'it returns false'. Refute it at one input. -/
def actOrdersWrong : ChangeSpec := { name := "actOrders", fn := fun _ => fun
  | [d1, d2, d3] => { results := [.lit (.bool false)], args := [d1, d2, d3] }
  | _ => none }
def ActOrdersWrongFalsely : Prop := actOrdersRow.holds Try.pinned (OpenSpec.ofChange actOrdersWrong)

/-- 'horologelaw08.ActSame': WHATEVER THE INPUT: true; the input reads as it did. -/
def actSameSpec : ChangeSpec := { name := "actSame", fn := fun _ => fun
  | [d1, d2] => { results := [.lit (.bool true)], args := [d1, d2] }
  | _ => none }
def actSameRow : OpenClaim := { program := "ythkfaeplmmlnlaa", sum := "72c344c7a1c64c811ae11fa330d40e8ffa117484945786158e9c6aa500651fe7", func := "horologe/horologelaw08.ActSame", spec := "actSame", unfollowed := true, recurses := true, apart := false }
def ActSameSaid : Prop := actSameRow.holds Try.pinned (OpenSpec.ofChange actSameSpec)

/-- ITS FALSE NEIGHBOUR: 'it returns false'. Refute it at one input. -/
def actSameWrong : ChangeSpec := { name := "actSame", fn := fun _ => fun
  | [d1, d2] => { results := [.lit (.bool false)], args := [d1, d2] }
  | _ => none }
def ActSameWrongFalsely : Prop := actSameRow.holds Try.pinned (OpenSpec.ofChange actSameWrong)

/-- 'horologelaw08.ActAgain': WHATEVER THE INPUT: true; the input reads as it did. -/
def actAgainSpec : ChangeSpec := { name := "actAgain", fn := fun _ => fun
  | [d1, d2] => { results := [.lit (.bool true)], args := [d1, d2] }
  | _ => none }
def actAgainRow : OpenClaim := { program := "ythkfaeplmmlnlaa", sum := "72c344c7a1c64c811ae11fa330d40e8ffa117484945786158e9c6aa500651fe7", func := "horologe/horologelaw08.ActAgain", spec := "actAgain", inPlace := ["math.Float64bits"], unfollowed := true, recurses := true, apart := false }
def ActAgainSaid : Prop := actAgainRow.holds Try.pinned (OpenSpec.ofChange actAgainSpec)

/-- ITS FALSE NEIGHBOUR: 'it returns false'. Refute it at one input. -/
def actAgainWrong : ChangeSpec := { name := "actAgain", fn := fun _ => fun
  | [d1, d2] => { results := [.lit (.bool false)], args := [d1, d2] }
  | _ => none }
def ActAgainWrongFalsely : Prop := actAgainRow.holds Try.pinned (OpenSpec.ofChange actAgainWrong)

/-- 'horologelaw09.PlainOrder': WHATEVER THE INPUT: true; the input reads as it did. -/
def plainOrderSpec : ChangeSpec := { name := "plainOrder", fn := fun _ => fun
  | [d1, d2] => { results := [.lit (.bool true)], args := [d1, d2] }
  | _ => none }
def plainOrderRow : OpenClaim := { program := "ythkfaeplmmlnlaa", sum := "72c344c7a1c64c811ae11fa330d40e8ffa117484945786158e9c6aa500651fe7", func := "horologe/horologelaw09.PlainOrder", spec := "plainOrder", unfollowed := true, recurses := true, apart := false }
def PlainOrderSaid : Prop := plainOrderRow.holds Try.pinned (OpenSpec.ofChange plainOrderSpec)

/-- ITS FALSE NEIGHBOUR: 'it returns false'. Refute it at one input. -/
def plainOrderWrong : ChangeSpec := { name := "plainOrder", fn := fun _ => fun
  | [d1, d2] => { results := [.lit (.bool false)], args := [d1, d2] }
  | _ => none }
def PlainOrderWrongFalsely : Prop := plainOrderRow.holds Try.pinned (OpenSpec.ofChange plainOrderWrong)

/-- 'horologelaw09.PlainParts': WHATEVER THE INPUT: true; the input reads as it did. -/
def plainPartsSpec : ChangeSpec := { name := "plainParts", fn := fun _ => fun
  | [d1, d2] => { results := [.lit (.bool true)], args := [d1, d2] }
  | _ => none }
def plainPartsRow : OpenClaim := { program := "ythkfaeplmmlnlaa", sum := "72c344c7a1c64c811ae11fa330d40e8ffa117484945786158e9c6aa500651fe7", func := "horologe/horologelaw09.PlainParts", spec := "plainParts", inPlace := ["math.Float64bits"], unfollowed := true, recurses := true, apart := false }
def PlainPartsSaid : Prop := plainPartsRow.holds Try.pinned (OpenSpec.ofChange plainPartsSpec)

/-- ITS FALSE NEIGHBOUR: 'it returns false'. Refute it at one input. -/
def plainPartsWrong : ChangeSpec := { name := "plainParts", fn := fun _ => fun
  | [d1, d2] => { results := [.lit (.bool false)], args := [d1, d2] }
  | _ => none }
def PlainPartsWrongFalsely : Prop := plainPartsRow.holds Try.pinned (OpenSpec.ofChange plainPartsWrong)

/-- 'horologelaw09.PlainNone': WHATEVER THE INPUT: true; the input reads as it did. -/
def plainNoneSpec : ChangeSpec := { name := "plainNone", fn := fun _ => fun
  | [d1, d2] => { results := [.lit (.bool true)], args := [d1, d2] }
  | _ => none }
def plainNoneRow : OpenClaim := { program := "ythkfaeplmmlnlaa", sum := "72c344c7a1c64c811ae11fa330d40e8ffa117484945786158e9c6aa500651fe7", func := "horologe/horologelaw09.PlainNone", spec := "plainNone", unfollowed := true, recurses := true, apart := false }
def PlainNoneSaid : Prop := plainNoneRow.holds Try.pinned (OpenSpec.ofChange plainNoneSpec)

/-- ITS FALSE NEIGHBOUR: 'it returns false'. Refute it at one input. -/
def plainNoneWrong : ChangeSpec := { name := "plainNone", fn := fun _ => fun
  | [d1, d2] => { results := [.lit (.bool false)], args := [d1, d2] }
  | _ => none }
def PlainNoneWrongFalsely : Prop := plainNoneRow.holds Try.pinned (OpenSpec.ofChange plainNoneWrong)

/- THE SECOND FORM. 'bulk': how many values and letters a reading holds, each counted each time it is reached (what is shared counts as often as it is met; a slice's spare places count too). A statement '..UptoSaid' is the law's where the arguments, and the package variables that the reading takes, are together of bulk at most 1048576: NARROWER than '..Said'. Prove '..Said' where nothing that the law and all that it calls make is longer than what came in: it says more and counts as full. Else prove '..UptoSaid'. A law counts once. -/
mutual
def uptoBulk {H : Type} : DataW H → Nat
  | .lit (.string bytes) => bytes.length + 1
  | .lit _ => 1
  | .nil => 1
  | .ptr d => uptoBulk d + 1
  | .slice elems spare => uptoBulkAll elems + uptoBulkAll spare + 1
  | .agg parts => uptoBulkAll parts + 1
  | .iface _ d => uptoBulk d + 1
  | .map entries => uptoBulkEntries entries + 1
  | .held _ => 1
def uptoBulkAll {H : Type} : List (DataW H) → Nat
  | [] => 0
  | d :: r => uptoBulk d + uptoBulkAll r
def uptoBulkEntries {H : Type} : List (Lit × DataW H) → Nat
  | [] => 0
  | x :: r => uptoBulkEntry x + uptoBulkEntries r
def uptoBulkEntry {H : Type} : Lit × DataW H → Nat
  | (.string bytes, d) => bytes.length + uptoBulk d + 1
  | (_, d) => uptoBulk d + 1
 end
def uptoSmall : (H : Type) → List (DataW H) → Bool := fun _ ds => decide (uptoBulkAll ds ≤ 1048576)
def OpenSpec.upto (s : _root_.Go.ChangeSpec) : _root_.Go.OpenSpec := { _root_.Go.OpenSpec.ofChange s with cond := some uptoSmall }

/-- 'horologelaw08.ActBegins', WHERE WHAT IT READS IS OF BULK AT MOST 1048576: true; the input reads as it did. -/
def actBeginsUptoRow : OpenClaim := { program := "ythkfaeplmmlnlaa", sum := "72c344c7a1c64c811ae11fa330d40e8ffa117484945786158e9c6aa500651fe7", func := "horologe/horologelaw08.ActBegins", spec := "actBegins", inPlace := ["math.Float64bits"], unfollowed := true, recurses := true, apart := false, narrowed := true }
def ActBeginsUptoSaid : Prop := actBeginsUptoRow.holds Try.pinned (OpenSpec.upto actBeginsSpec)

/-- 'horologelaw08.ActHandles', WHERE WHAT IT READS IS OF BULK AT MOST 1048576: true; the input reads as it did. -/
def actHandlesUptoRow : OpenClaim := { program := "ythkfaeplmmlnlaa", sum := "72c344c7a1c64c811ae11fa330d40e8ffa117484945786158e9c6aa500651fe7", func := "horologe/horologelaw08.ActHandles", spec := "actHandles", inPlace := ["math.Float64bits"], unfollowed := true, recurses := true, apart := false, narrowed := true }
def ActHandlesUptoSaid : Prop := actHandlesUptoRow.holds Try.pinned (OpenSpec.upto actHandlesSpec)

/-- 'horologelaw08.ActLater', WHERE WHAT IT READS IS OF BULK AT MOST 1048576: true; the input reads as it did. -/
def actLaterUptoRow : OpenClaim := { program := "ythkfaeplmmlnlaa", sum := "72c344c7a1c64c811ae11fa330d40e8ffa117484945786158e9c6aa500651fe7", func := "horologe/horologelaw08.ActLater", spec := "actLater", unfollowed := true, recurses := true, apart := false, narrowed := true }
def ActLaterUptoSaid : Prop := actLaterUptoRow.holds Try.pinned (OpenSpec.upto actLaterSpec)

/-- 'horologelaw08.ActOrders', WHERE WHAT IT READS IS OF BULK AT MOST 1048576: true; the input reads as it did. -/
def actOrdersUptoRow : OpenClaim := { program := "ythkfaeplmmlnlaa", sum := "72c344c7a1c64c811ae11fa330d40e8ffa117484945786158e9c6aa500651fe7", func := "horologe/horologelaw08.ActOrders", spec := "actOrders", unfollowed := true, recurses := true, apart := false, narrowed := true }
def ActOrdersUptoSaid : Prop := actOrdersUptoRow.holds Try.pinned (OpenSpec.upto actOrdersSpec)

/-- 'horologelaw08.ActSame', WHERE WHAT IT READS IS OF BULK AT MOST 1048576: true; the input reads as it did. -/
def actSameUptoRow : OpenClaim := { program := "ythkfaeplmmlnlaa", sum := "72c344c7a1c64c811ae11fa330d40e8ffa117484945786158e9c6aa500651fe7", func := "horologe/horologelaw08.ActSame", spec := "actSame", unfollowed := true, recurses := true, apart := false, narrowed := true }
def ActSameUptoSaid : Prop := actSameUptoRow.holds Try.pinned (OpenSpec.upto actSameSpec)

/-- 'horologelaw08.ActAgain', WHERE WHAT IT READS IS OF BULK AT MOST 1048576: true; the input reads as it did. -/
def actAgainUptoRow : OpenClaim := { program := "ythkfaeplmmlnlaa", sum := "72c344c7a1c64c811ae11fa330d40e8ffa117484945786158e9c6aa500651fe7", func := "horologe/horologelaw08.ActAgain", spec := "actAgain", inPlace := ["math.Float64bits"], unfollowed := true, recurses := true, apart := false, narrowed := true }
def ActAgainUptoSaid : Prop := actAgainUptoRow.holds Try.pinned (OpenSpec.upto actAgainSpec)

/-- 'horologelaw09.PlainOrder', WHERE WHAT IT READS IS OF BULK AT MOST 1048576: true; the input reads as it did. -/
def plainOrderUptoRow : OpenClaim := { program := "ythkfaeplmmlnlaa", sum := "72c344c7a1c64c811ae11fa330d40e8ffa117484945786158e9c6aa500651fe7", func := "horologe/horologelaw09.PlainOrder", spec := "plainOrder", unfollowed := true, recurses := true, apart := false, narrowed := true }
def PlainOrderUptoSaid : Prop := plainOrderUptoRow.holds Try.pinned (OpenSpec.upto plainOrderSpec)

/-- 'horologelaw09.PlainParts', WHERE WHAT IT READS IS OF BULK AT MOST 1048576: true; the input reads as it did. -/
def plainPartsUptoRow : OpenClaim := { program := "ythkfaeplmmlnlaa", sum := "72c344c7a1c64c811ae11fa330d40e8ffa117484945786158e9c6aa500651fe7", func := "horologe/horologelaw09.PlainParts", spec := "plainParts", inPlace := ["math.Float64bits"], unfollowed := true, recurses := true, apart := false, narrowed := true }
def PlainPartsUptoSaid : Prop := plainPartsUptoRow.holds Try.pinned (OpenSpec.upto plainPartsSpec)

/-- 'horologelaw09.PlainNone', WHERE WHAT IT READS IS OF BULK AT MOST 1048576: true; the input reads as it did. -/
def plainNoneUptoRow : OpenClaim := { program := "ythkfaeplmmlnlaa", sum := "72c344c7a1c64c811ae11fa330d40e8ffa117484945786158e9c6aa500651fe7", func := "horologe/horologelaw09.PlainNone", spec := "plainNone", unfollowed := true, recurses := true, apart := false, narrowed := true }
def PlainNoneUptoSaid : Prop := plainNoneUptoRow.holds Try.pinned (OpenSpec.upto plainNoneSpec)

end Rows
end Go.Proofs.Ythkfaeplmmlnlaa
