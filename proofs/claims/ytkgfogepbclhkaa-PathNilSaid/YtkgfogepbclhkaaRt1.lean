/-
  The program's rto: limit, distance, Value, Smooth.
-/
import Derived.Test.YtkgfogepbclhkaaChecked
import Derived.Test.YtkgfogepbclhkaaRtEst
import Derived.Handy
import Derived.Outline
import Derived.StillTailTactics
import Derived.RegionTactic
import Derived.Lib.MinMax
namespace Go.Proofs.Ytkgfogepbclhkaa
open Go.RowKit
set_option linter.unusedVariables false

theorem limit_any (x lo hi : Int) (w : World) :
    Calls Try.prog 60 #[.int .i64 x, .int .i64 lo, .int .i64 hi] w fun e w' => e = .returned (.int .i64 (lim x lo hi)) ∧ w = w' := by
  unfold lim
  go_enter Try.func60, Try.ntmps60
  go_wp2
  go_ret
  exact ⟨rfl, rfl⟩
theorem distance_any (a b : Int) (w : World) (ha : 0 ≤ a ∧ a ≤ 4194304) (hb : 0 ≤ b ∧ b ≤ 4194304) :
    Calls Try.prog 65 #[.int .i64 a, .int .i64 b] w fun e w' => e = .returned (.int .i64 (max a b - min a b)) ∧ w = w' := by
  have h : -9223372036854775808 ≤ max a b - min a b ∧ max a b - min a b ≤ 9223372036854775807 := by omega
  go_enter Try.func65, Try.ntmps65
  go_wp2
  go_ret
  exact ⟨rfl, rfl⟩
section
variable (w : World) (g : Nat) (x lo hi : Int) (any : Bool) (S V : Int)
theorem value_any (h : Est 71 w g x lo hi any S V) :
    Calls Try.prog 47 #[.pointer (some ⟨g, 0, none⟩)] w fun e w' => e = .returned (.int .i64 x) ∧ w = w' := by
  have c0 := h.blk.cell (i := 0) rfl
  go_enter Try.func47, Try.ntmps47
  go_wp2
  go_ret
  exact ⟨rfl, rfl⟩
theorem value_nil :
    Calls Try.prog 47 #[.pointer none] w fun e w' => e = .returned (.int .i64 0) ∧ w = w' := by
  go_enter Try.func47, Try.ntmps47
  go_wp2
  go_ret
  exact ⟨rfl, rfl⟩
end
end Go.Proofs.Ytkgfogepbclhkaa
