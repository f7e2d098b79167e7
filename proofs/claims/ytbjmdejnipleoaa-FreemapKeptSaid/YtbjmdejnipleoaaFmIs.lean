/- The program's map keeps what the laws' walks ask of it. -/
import Derived.Test.YtbjmdejnipleoaaFmRowAid
import Derived.Test.YtbjmdejnipleoaaFmP3
namespace Go.Proofs.Ytbjmdejnipleoaa
open Go.RowKit Go.Deep
set_option linter.unusedVariables false

theorem fm_is : Fm12 PFm where
  below := fun h k => h.below k
  kept := fun h hs k => h.kept hs k
  lo := fun h => h.s_lo
  new := fun n u hn => pnew12_any n u hn
  bad := fun x u hx => pnew12_bad x u hx
  use := fun i h hn _ => puse12_any h hn i
  take := fun h hn _ => ptake12_any h hn
  leave := fun i h hn _ => pleave12_any h hn i
  commit := fun h hn _ => pcommit12_any h hn
  abort := fun h hn _ => pabort12_any h hn
  list := fun k h hn _ _ => plist12_any h hn k
  count := fun h hn _ => pcount12_any h hn
  free := fun h hn _ => pfree12_any h hn
  fresh := fun i h hn _ => pfresh12_any h hn i
theorem fmn_is : Fm12N where
  take := ptake12_nil
  count := pcount12_nil
  use := puse12_nil
  leave := pleave12_nil
  commit := pcommit12_nil
  abort := pabort12_nil
  free := pfree12_nil
  list := plist12_nil
  fresh := pfresh12_nil

end Go.Proofs.Ytbjmdejnipleoaa
