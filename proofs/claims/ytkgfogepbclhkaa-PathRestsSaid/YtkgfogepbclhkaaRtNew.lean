/-
  The program's rto: New.
-/
import Derived.Test.YtkgfogepbclhkaaRtEst
import Derived.Test.YtkgfogepbclhkaaChecked
import Derived.Handy
import Derived.Outline
import Derived.StillTailTactics
import Derived.RegionTactic
import Derived.Lib.MinMax
namespace Go.Proofs.Ytkgfogepbclhkaa
open Go.RowKit
set_option linter.unusedVariables false

theorem new_yes (w : World) (first lo hi : Int) (h : takes first lo hi = true) :
    Calls Try.prog 25 #[.int .i64 first, .int .i64 lo, .int .i64 hi] w fun e w' => e = .returned (.tuple #[.pointer (some ⟨w.heap.size, 0, none⟩), .int .i64 0]) ∧ Est 71 w' w.heap.size first lo hi false 0 0 ∧ Turn [] w w' ∧ w.heap.size < w'.heap.size := by
  have hg := takes_good h
  obtain ⟨h1, h2, h3, h4⟩ := takes_iff.1 h
  have d1 : decide (lo < 1) = false := by simp; omega
  have d2 : decide (first < lo) = false := by simp; omega
  have d3 : decide (hi < first) = false := by simp; omega
  have d4 : decide (1048576 < hi) = false := by simp; omega
  have hA := arr_new w 71 (estC first lo hi false 0 0)
  have hT : Turn [] w (w.alloc (.cells (estC first lo hi false 0 0).toArray 71)) := (Turn.refl _ _).alloc _
  have HA := Lib.hid (And.intro hA hT)
  have HG := Lib.hid hg
  clear h hg h1 h2 h3 h4 hA hT
  go_enter Try.func25, Try.ntmps25
  go_wp2
  go_ret2

  exact ⟨rfl, ⟨HA.out.1, HG.out⟩, HA.out.2, by simp⟩
theorem new_no (w : World) (first lo hi : Int) (h : takes first lo hi = false) :
    Calls Try.prog 25 #[.int .i64 first, .int .i64 lo, .int .i64 hi] w fun e w' => e = .returned (.tuple #[.pointer none, .int .i64 1]) ∧ w = w' := by
  by_cases h1 : 1 ≤ lo
  · have d1 : decide (lo < 1) = false := by simp; omega
    by_cases h2 : lo ≤ first
    · have d2 : decide (first < lo) = false := by simp; omega
      by_cases h3 : first ≤ hi
      · have d3 : decide (hi < first) = false := by simp; omega
        by_cases h4 : hi ≤ 1048576
        · exfalso
          have := takes_iff.2 ⟨h1, h2, h3, h4⟩
          rw [this] at h
          cases h
        · have d4 : decide (1048576 < hi) = true := by simp; omega
          clear h h1 h2 h3 h4
          go_enter Try.func25, Try.ntmps25
          go_wp2
          go_ret2
          exact ⟨rfl, rfl⟩
      · have d3 : decide (hi < first) = true := by simp; omega
        clear h h1 h2 h3
        go_enter Try.func25, Try.ntmps25
        go_wp2
        go_ret2
        exact ⟨rfl, rfl⟩
    · have d2 : decide (first < lo) = true := by simp; omega
      clear h h1 h2
      go_enter Try.func25, Try.ntmps25
      go_wp2
      go_ret2
      exact ⟨rfl, rfl⟩
  · have d1 : decide (lo < 1) = true := by simp; omega
    clear h h1
    go_enter Try.func25, Try.ntmps25
    go_wp2
    go_ret2
    exact ⟨rfl, rfl⟩
end Go.Proofs.Ytkgfogepbclhkaa
