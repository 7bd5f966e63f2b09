/-
  The program's cookie keeps what the laws lean on.
-/
import Derived.Test.YtcmaclaiholpfaaDoorKP2
import Derived.Test.YtcmaclaiholpfaaDoorKP3
import Derived.Test.YtcmaclaiholpfaaDoorKP4
import Derived.Test.YtcmaclaiholpfaaDoorKWks
namespace Go.Proofs.YtcmaclaiholpfaaDoor
open Go.RowKit

theorem kfresh_ok : KFreshOk := fun k now life w hk hn hl => pfresh_any k now life w hk hn hl
theorem kworks_ok : KWorks := kworks_of kwrite_ok kread_ok kfresh_ok
end Go.Proofs.YtcmaclaiholpfaaDoor
