/- What mayBeIn makes. -/
import Derived.Test.YtehdlpgopcoecaaModelMem
import Derived.Test.YtehdlpgopcoecaaModelIns
namespace Go.Proofs.Ytehdlpgopcoecaa
open Go.RowKit
set_option linter.unusedVariables false

theorem mayBeIn_box (len : Int) (w : World) :
    Calls Try.prog 38 #[.int .i64 len] w fun e w' => ∃ q, e = .returned (.func (.func 45) #[] #[.pointer (some ⟨q, 0, none⟩)]) ∧ BoxI len q w' ∧ Below w.heap.size w w' := by
  refine (mayBeIn_any len w).mono ?_
  rintro e w' ⟨rfl, rfl⟩
  have hh := heap_alloc_new w (.cells #[.int .i64 len] 3)
  exact ⟨_, rfl, ⟨by rw [Lib.cell_of_heap hh]; rfl, lt_of_block hh⟩, balloc _ _⟩

end Go.Proofs.Ytehdlpgopcoecaa
