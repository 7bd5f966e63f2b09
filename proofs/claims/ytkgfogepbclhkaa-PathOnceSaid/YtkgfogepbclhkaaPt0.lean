/-
  The layers beneath path, the program's: what the path's texts import.
-/
import Derived.Test.YtkgfogepbclhkaaChecked
import Derived.Test.YtkgfogepbclhkaaRt3
import Derived.Test.YtkgfogepbclhkaaRtNew
import Derived.Test.YtkgfogepbclhkaaWn3
import Derived.Handy
import Derived.Outline
import Derived.StillTailTactics
import Derived.RegionTactic
import Derived.Lib.MinMax
import Derived.Deep.Cut
import Derived.BigQuiet
namespace Go.Proofs.Ytkgfogepbclhkaa
end Go.Proofs.Ytkgfogepbclhkaa
