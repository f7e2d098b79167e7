/- Disks that go down and crash under the program's store. -/
import Derived.Test.YtdpmpmaepjgndaaGreatYZ35
import Derived.Test.YtdpmpmaepjgndaaGreatYZ43
namespace Go.Proofs.YtdpmpmaepjgndaaGreat
open Go.RowKit Go.Deep
set_option linter.unusedVariables false
set_option linter.unusedSimpArgs false
set_option maxRecDepth 100000

theorem shc_is : Sh14C PMx PFx PCx where
  arm := fun n h hx hb h1 h2 => c_arm n h hx h1 h2
  down := c_down
  fdown := c_fdown
  crash := c_crash
  fcrash := c_fcrash
  copen := scopen_x

end Go.Proofs.YtdpmpmaepjgndaaGreat
