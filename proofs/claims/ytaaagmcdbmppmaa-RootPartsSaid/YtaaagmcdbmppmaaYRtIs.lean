/- The program's root is as the laws ask. -/
import Derived.Test.YtaaagmcdbmppmaaYRtRowAid
import Derived.Test.YtaaagmcdbmppmaaYRtP9
import Derived.Test.YtaaagmcdbmppmaaYRtP10
import Derived.Test.YtaaagmcdbmppmaaYRtP11
namespace Go.Proofs.Ytaaagmcdbmppmaa
open Go.RowKit Go.Deep

theorem rt_is : Rt13 where
  put := fun ep lg l v u he hg hl hv => pputR_any ep lg l v u he hg hl hv
  get := fun s u hs => pgetR_any s u hs
  newer := fun s x u hx => pnewer_any s x u hx
  need := fun x u hx => (pneed_any x hx u).mono fun _ _ h => ⟨h.1, h.2 ▸ Below.refl _ _⟩
  putPart := fun l v p u hv hl hp => pputpart_any l v p u hv hl hp
  getPart := fun s m u hs hm => pgetpart_any s m u hs hm

end Go.Proofs.Ytaaagmcdbmppmaa
