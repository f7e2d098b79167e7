/- The program's store of logical pages does what is asked of one. -/
import Derived.Test.YtmflkkkbahghgaaGreatYZ35
import Derived.Test.YtmflkkkbahghgaaGreatYZ36
import Derived.Test.YtmflkkkbahghgaaGreatYZ38
import Derived.Test.YtmflkkkbahghgaaGreatYQShCm
namespace Go.Proofs.YtmflkkkbahghgaaGreat
open Go.RowKit Go.Deep
set_option linter.unusedVariables false
set_option linter.unusedSimpArgs false
set_option maxRecDepth 100000

theorem sh_is : Sh14 PMx PFx PCx where
  kept := pmx_kept
  lo := pmx_lo
  fkept := pfx_kept
  flo := pfx_lo
  ckept := pcx_kept
  clo := pcx_lo
  format := sformat_any
  new := fun s h hx hb hs => snew_any s h hx hs
  write := fun l s h hx hb hs => swrite_any l s h hx hs
  drop := fun l h hx hb => sdrop_any l h hx
  commit := scommit_any
  abort := fun h hx hb => sabort_any h hx
  read := fun i h hx hb => sread_any i h hx

end Go.Proofs.YtmflkkkbahghgaaGreat
