/-
  Stage 10: all that the laws lean on, proved of the program.
-/
import Derived.Test.YtnndlpbbllmpjaaPkP3
import Derived.Test.YtnndlpbbllmpjaaPkP5
import Derived.Test.YtnndlpbbllmpjaaPkP6
import Derived.Test.YtnndlpbbllmpjaaPkWks
namespace Go.Proofs.Ytnndlpbbllmpjaa
theorem wk_ok : PkWorks := pkWorks_of pw_ok pr_ok ps_ok
end Go.Proofs.Ytnndlpbbllmpjaa
