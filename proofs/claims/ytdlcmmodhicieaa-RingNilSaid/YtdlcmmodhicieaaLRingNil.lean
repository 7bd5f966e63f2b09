/-
  The walk of RingNil.
-/
import Derived.Test.YtdlcmmodhicieaaRingWorks
import Derived.Test.YtdlcmmodhicieaaRingStr
import Derived.Test.YtdlcmmodhicieaaFrame
namespace Go.Proofs.Ytdlcmmodhicieaa
open Go.RowKit
set_option linter.unusedVariables false

set_option maxHeartbeats 800000 in
theorem ringNil_walk (x : ByteArray) (i : Int) (w : World) (wx : x.size ≤ maxLen) (wi : (Lit.int .i64 i).wf = true) :
    Calls Try.prog 9 #[.string x, .int .i64 i] w fun e w' => e = .returned (.bool true) ∧ Below w.heap.size w w' := by
  clear wx wi
  go_enter Try.func9, Try.ntmps9
  go_wp2_with fail
  refine (clear_nil w).mono ?_
  rintro e w' ⟨rfl, rfl⟩
  go_wp2_with fail
  refine (pop_nil w).mono ?_
  rintro e w' ⟨rfl, rfl⟩
  go_wp2_with fail
  refine (at_nil w i).mono ?_
  rintro e w' ⟨rfl, rfl⟩
  go_wp2_with fail
  refine (push_nil w _).mono ?_
  rintro e w' ⟨rfl, rfl⟩
  go_wp2_with fail
  refine (len_nil w).mono ?_
  rintro e w' ⟨rfl, rfl⟩
  go_wp2_with fail
  refine (room_nil w).mono ?_
  rintro e w' ⟨rfl, rfl⟩
  go_wp2_with fail
  refine (works_any w).mono ?_
  rintro e w1 ⟨rfl, hb1⟩
  go_wp2
  go_ret
  exact ⟨rfl, hb1⟩
end Go.Proofs.Ytdlcmmodhicieaa
