/-
  The walk of OctetRounds.
-/
import Derived.Test.YtjpeceplhdmaoaaWorks
import Derived.Test.YtjpeceplhdmaoaaFrame
namespace Go.Proofs.Ytjpeceplhdmaoaa
open Go.RowKit
set_option linter.unusedVariables false

theorem octetRounds_walk (a0 : Int) (w : World) (w0 : (Lit.int .i64 a0).wf = true) :
    Calls Try.prog 7 #[.int .i64 a0] w fun e w' => e = .returned (.bool true) ∧ Below w.heap.size w w' := by
  by_cases h0 : a0 < 0 ∨ 4611686018427387904 < a0
  · have hr := fun W => round_any a0 W
    rw [rnd_out a0 h0] at hr
    have hr' := Lib.hid hr
    clear hr
    rcases h0 with h0 | h0
    all_goals
      go_enter Try.func7, Try.ntmps7
      go_wp2_with (first
        | (go_at_call 24; refine (hr'.out _).mono ?_; rintro e w' ⟨rfl, rfl⟩)
        | (go_at_call 11; refine (works_any _).mono ?_; rintro e w' ⟨rfl, hb⟩))
      go_ret
      exact ⟨rfl, hb⟩
  · obtain ⟨n, rfl⟩ := Int.eq_ofNat_of_zero_le (show 0 ≤ a0 by omega)
    have g1 := up4_ge n
    have g2 := up4_le n
    have g3 : (up4 n : Int) % 4 = 0 := by unfold up4; omega
    have hu : up4 (up4 n) = up4 n := by unfold up4; omega
    have hr2 := fun W => round_nat (up4 n) W (by unfold up4; omega)
    rw [hu] at hr2
    have hr2' := Lib.hid hr2
    have k0 : (n : Int) ≤ 4611686018427387904 := by omega
    have hn : n ≤ 4611686018427387904 := by omega
    clear hu h0 hr2
    go_enter Try.func7, Try.ntmps7
    go_wp2_with fail
    refine (round_nat n _ hn).mono ?_
    rintro e w' ⟨rfl, rfl⟩
    go_wp2_with (first
        | (go_at_call 24; refine (hr2'.out _).mono ?_; rintro e w' ⟨rfl, rfl⟩)
        | (go_at_call 11; refine (works_any _).mono ?_; rintro e w' ⟨rfl, hb⟩))
    go_ret
    exact ⟨rfl, hb⟩
end Go.Proofs.Ytjpeceplhdmaoaa
