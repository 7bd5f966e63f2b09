/-
  The layers beneath path, the reference's: what the path's texts import.
-/
import Derived.Test.YtkgfogepbclhkaaChecked
import Derived.Test.YtkgfogepbclhkaaRtRef2
import Derived.Test.YtkgfogepbclhkaaWnRef
import Derived.Handy
import Derived.Outline
import Derived.StillTailTactics
import Derived.RegionTactic
import Derived.Lib.MinMax
import Derived.Deep.Cut
import Derived.BigQuiet
namespace Go.Proofs.Ytkgfogepbclhkaa
end Go.Proofs.Ytkgfogepbclhkaa
