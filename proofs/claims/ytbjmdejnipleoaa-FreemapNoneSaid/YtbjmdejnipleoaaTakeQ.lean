/- Takes out of a drawn region, said shortly: an operation that is not wanted, one that only reads. -/
import Derived.WalkKit
import Derived.Deep.RegionHeld3
import Derived.Maps.RangeWalk
namespace Go.Proofs.Ytbjmdejnipleoaa
open Go.RowKit
section
variable {P : Program} {ops : Array Oper} {Q : Exit → Act → World → Prop} {md : Region.Mode} {S : World → Prop}
theorem tq0 (i : Nat) {f1 f2 f3 f4 f5 f6} {fuel : Nat} {listed : Array Bool} {a : Act} {w : World} (hi : ops[i]? = some (Oper.mk f1 f2 f3 f4 f5 f6))
    (h : wpAnyH P md ops Q S fuel (listed.setIfInBounds i true) (a.put (Oper.mk f1 f2 f3 f4 f5 f6).dst undef) w)
    (hs : Region.noSelect ops = true := by kernel_rfl) (hf : Region.free md ops listed i = true := by kernel_rfl) (hr : (Region.ready md ops listed).contains i = true := by kernel_rfl)
    (hQ : ∀ c a w, Q (.panic c) (a.put (Oper.mk f1 f2 f3 f4 f5 f6).dst undef) w → Q (.panic c) a w := by exact fun _ _ _ h => h)
    (hw : Region.wanted (Oper.mk f1 f2 f3 f4 f5 f6) (yielded ops a.tmps) = false := by rfl) (hS : S w := by assumption) : wpAnyH P md ops Q S (fuel + 1) listed a w := wpAnyH_take hi hs hf hr hQ (.inr ⟨hw, rfl⟩) hS h
theorem tq1 (i : Nat) {f1 f2 f3 f4 f5 f6} {v : Value} {fuel : Nat} {listed : Array Bool} {a : Act} {w : World} (hi : ops[i]? = some (Oper.mk f1 f2 f3 f4 f5 f6))
    (h : wpAnyH P md ops Q S fuel (listed.setIfInBounds i true) (a.put (Oper.mk f1 f2 f3 f4 f5 f6).dst v) w)
    (hs : Region.noSelect ops = true := by kernel_rfl) (hf : Region.free md ops listed i = true := by kernel_rfl) (hr : (Region.ready md ops listed).contains i = true := by kernel_rfl)
    (hQ : ∀ c a w, Q (.panic c) (a.put (Oper.mk f1 f2 f3 f4 f5 f6).dst v) w → Q (.panic c) a w := by exact fun _ _ _ h => h)
    (hw : Region.wanted (Oper.mk f1 f2 f3 f4 f5 f6) (yielded ops a.tmps) = true := by rfl)
    (hy : ∀ w5, S w5 → (execOp a.eval (Oper.mk f1 f2 f3 f4 f5 f6)).run P w5 = .ok (.value v) w5 := by intro w5 hSw; (try dsimp only at hSw); go_simp; (try with_reducible rfl)) (hS : S w := by assumption) : wpAnyH P md ops Q S (fuel + 1) listed a w := wpAnyH_take hi hs hf hr hQ (.inl ⟨hw, hy⟩) hS h
end
end Go.Proofs.Ytbjmdejnipleoaa
