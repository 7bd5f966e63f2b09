/-
  The program's rto: limit, distance, Value, Smooth.
-/
import Derived.Test.YtnngbckahkalhaaChecked
import Derived.Test.YtnngbckahkalhaaRtEst
import Derived.Handy
import Derived.Outline
import Derived.StillTailTactics
import Derived.RegionTactic
import Derived.Lib.MinMax
namespace Go.Proofs.Ytnngbckahkalhaa
open Go.RowKit
set_option linter.unusedVariables false

theorem limit_any (x lo hi : Int) (w : World) :
    Calls Try.prog 20 #[.int .i64 x, .int .i64 lo, .int .i64 hi] w fun e w' => e = .returned (.int .i64 (lim x lo hi)) ∧ w = w' := by
  unfold lim
  go_enter Try.func20, Try.ntmps20
  go_wp2
  go_ret
  exact ⟨rfl, rfl⟩
theorem distance_any (a b : Int) (w : World) (ha : 0 ≤ a ∧ a ≤ 4194304) (hb : 0 ≤ b ∧ b ≤ 4194304) :
    Calls Try.prog 23 #[.int .i64 a, .int .i64 b] w fun e w' => e = .returned (.int .i64 (max a b - min a b)) ∧ w = w' := by
  have h : -9223372036854775808 ≤ max a b - min a b ∧ max a b - min a b ≤ 9223372036854775807 := by omega
  go_enter Try.func23, Try.ntmps23
  go_wp2
  go_ret
  exact ⟨rfl, rfl⟩
section
variable (w : World) (g : Nat) (x lo hi : Int) (any : Bool) (S V : Int)
theorem value_any (h : Est 44 w g x lo hi any S V) :
    Calls Try.prog 18 #[.pointer (some ⟨g, 0, none⟩)] w fun e w' => e = .returned (.int .i64 x) ∧ w = w' := by
  have c0 := h.blk.cell (i := 0) rfl
  go_enter Try.func18, Try.ntmps18
  go_wp2
  go_ret
  exact ⟨rfl, rfl⟩
theorem value_nil :
    Calls Try.prog 18 #[.pointer none] w fun e w' => e = .returned (.int .i64 0) ∧ w = w' := by
  go_enter Try.func18, Try.ntmps18
  go_wp2
  go_ret
  exact ⟨rfl, rfl⟩
theorem smooth_yes (h : Est 44 w g x lo hi true S V) :
    Calls Try.prog 16 #[.pointer (some ⟨g, 0, none⟩)] w fun e w' => e = .returned (.tuple #[.int .i64 (S / 8), .bool true]) ∧ w = w' := by
  have c3 := h.blk.cell (i := 3) rfl
  have c4 := h.blk.cell (i := 4) rfl
  obtain ⟨a1, a2, a3, a4, a5, a6, a7, a8⟩ := h.good
  go_enter Try.func16, Try.ntmps16
  go_wp2
  go_ret2
  exact ⟨rfl, rfl⟩
theorem smooth_no (h : Est 44 w g x lo hi false S V) :
    Calls Try.prog 16 #[.pointer (some ⟨g, 0, none⟩)] w fun e w' => e = .returned (.tuple #[.int .i64 0, .bool false]) ∧ w = w' := by
  have c3 := h.blk.cell (i := 3) rfl
  go_enter Try.func16, Try.ntmps16
  go_wp2
  go_ret2
  exact ⟨rfl, rfl⟩
theorem smooth_nil :
    Calls Try.prog 16 #[.pointer none] w fun e w' => e = .returned (.tuple #[.int .i64 0, .bool false]) ∧ w = w' := by
  go_enter Try.func16, Try.ntmps16
  go_wp2
  go_ret2
  exact ⟨rfl, rfl⟩
end
end Go.Proofs.Ytnngbckahkalhaa
