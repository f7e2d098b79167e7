/- Bytes as cells, and as numbers. -/
import Derived.Test.YtaaagmcdbmppmaaYPackOrdMath
import Derived.Test.YtaaagmcdbmppmaaYBytesOwn
namespace Go.Proofs.Ytaaagmcdbmppmaa
open Go.RowKit

theorem byteCells_nums (xs : List Int) : Lib.strCells (strOfNums xs) = Lib.byteCells (xs.map toU8) := by
  rw [Lib.strCells_eq, strOfNums_data]; rfl
theorem byteCells_append (a b : List UInt8) : Lib.byteCells (a ++ b) = Lib.byteCells a ++ Lib.byteCells b := by simp [Lib.byteCells]
theorem strOfNums_eq (xs : List Int) : strOfNums xs = ⟨(xs.map toU8).toArray⟩ := rfl
theorem byteCells_getD (xs : List Int) (i : Nat) (h : i < xs.length) (hx : ∀ x ∈ xs, 0 ≤ x ∧ x ≤ 255) : (Lib.byteCells (xs.map toU8))[i]? = some (.int .u8 (xs.getD i 0)) := by
  have h2 := hx xs[i] (List.getElem_mem h)
  simp only [Lib.byteCells, List.map_map, List.getElem?_map, List.getElem?_eq_getElem h, Option.map_some, Function.comp, List.getD, Option.getD_some]
  congr 2
  simp [toU8]
  omega

end Go.Proofs.Ytaaagmcdbmppmaa
