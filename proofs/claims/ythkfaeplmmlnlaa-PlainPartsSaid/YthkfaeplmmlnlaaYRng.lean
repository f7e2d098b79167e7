/- A model's numbers, each within its 64 bits. -/
import Derived.Test.YthkfaeplmmlnlaaYZ0
namespace Go.Proofs.Ythkfaeplmmlnlaa
set_option linter.unusedVariables false

def r64 (n : Int) : Prop := -9223372036854775808 ≤ n ∧ n ≤ 9223372036854775807
/-- all numbers within their 64 bits -/
structure Rng (m : Mdl) : Prop where
  seed : r64 m.seed
  fin : m.fin < 18446744073709551616
  d : ∀ i, i < m.nd → m.d i < 18446744073709551616
  pr : ∀ i, i < m.np → ∀ k, k < m.pl i → r64 (m.pr i k).op ∧ r64 (m.pr i k).a ∧ r64 (m.pr i k).b ∧ r64 (m.pr i k).c
  lp : ∀ i, i < m.nl → r64 (m.lp i)
  wd : ∀ i, i < m.nl → ∀ k, k < m.wl i → r64 (m.wd i k)
  ev : ∀ i, i < m.ni → (m.ev i).t < 18446744073709551616 ∧ r64 (m.ev i).dst ∧ r64 (m.ev i).pay

end Go.Proofs.Ythkfaeplmmlnlaa
