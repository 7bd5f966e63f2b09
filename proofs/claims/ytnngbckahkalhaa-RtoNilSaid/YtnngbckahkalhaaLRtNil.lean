/-
  The walk of RtoNil.
-/
import Derived.Test.YtnngbckahkalhaaRtWk
import Derived.Test.YtnngbckahkalhaaFrame
namespace Go.Proofs.Ytnngbckahkalhaa
open Go.RowKit
set_option linter.unusedVariables false

set_option maxHeartbeats 800000 in
theorem rtoNil_walk (t : Int) (w : World) (wt : (Lit.int .i64 t).wf = true) :
    Calls Try.prog 8 #[.int .i64 t] w fun e w' => e = .returned (.bool true) ∧ Below w.heap.size w w' := by
  clear wt
  go_enter Try.func8, Try.ntmps8
  go_wp2_with fail
  refine (back_nil w).mono ?_
  rintro e w' ⟨rfl, rfl⟩
  go_wp2_with fail
  refine (smooth_nil w).mono ?_
  rintro e w' ⟨rfl, rfl⟩
  go_wp2_with fail
  refine (value_nil w).mono ?_
  rintro e w' ⟨rfl, rfl⟩
  go_wp2_with fail
  refine (sample_nil w t).mono ?_
  rintro e w' ⟨rfl, rfl⟩
  go_wp2_with fail
  refine (works_any w).mono ?_
  rintro e w1 ⟨rfl, ht1⟩
  go_wp2
  go_ret
  exact ⟨rfl, ht1.below (Nat.le_refl _) (by simp)⟩
end Go.Proofs.Ytnngbckahkalhaa
