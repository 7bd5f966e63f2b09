/-
  The walk of RingPlays: all cases.
-/
import Derived.Test.YtdlcmmodhicieaaLRingPlays
namespace Go.Proofs.Ytdlcmmodhicieaa
open Go.RowKit
set_option linter.unusedVariables false

set_option maxRecDepth 100000 in
set_option maxHeartbeats 1600000 in
theorem ringPlays_walk (room : Int) (a : Option Addr) (len cap : Nat) (sts : List (Int × ByteArray × Int)) (w : World) (wr : (Lit.int .i64 room).wf = true) (hz : IsSteps5 w a len cap sts) :
    Calls Try.prog 3 #[.int .i64 room, .slice a len cap] w fun e w' => e = .returned (.bool true) ∧ Below w.heap.size w w' := by
  obtain ⟨hs, hcap⟩ := hz
  clear wr
  by_cases hlen : len ≤ 300
  · have gl : decide (300 < (len : Int)) = false := by rw [decide_eq_false_iff_not]; omega
    by_cases h1 : room < 1
    · have g1 : decide (2000 < room) = false := by rw [decide_eq_false_iff_not]; omega
      have hn := new_no_str w room (.inl h1)
      have hq := rnew_no w room (.inl h1)
      clear hs h1 hlen
      go_enter Try.func3, Try.ntmps3
      go_wp2_with fail
      refine hn.mono ?_
      rintro e w2 ⟨rfl, rfl⟩
      go_wp2_with fail
      refine hq.mono ?_
      rintro e w2 ⟨rfl, rfl⟩
      clear hn hq
      go_wp2
      refine wp_loop_rounds 1 ?_
      rw [rounds_succ]
      go_wp2_with fail
      all_goals
        refine (works_any _).mono ?_
        rintro e w3 ⟨rfl, hb3⟩
        go_wp2
        go_ret
        exact ⟨rfl, hb3⟩
    · by_cases h2 : 1048576 < room
      · have g1 : 2000 < room := by omega
        have g2 : decide (room ≤ 1048576) = false := by rw [decide_eq_false_iff_not]; omega
        have hn := new_no_str w room (.inr h2)
        have hq := rnew_no w room (.inr h2)
        clear hs h1 hlen h2
        go_enter Try.func3, Try.ntmps3
        go_wp2_with fail
        refine hn.mono ?_
        rintro e w2 ⟨rfl, rfl⟩
        go_wp2_with fail
        refine hq.mono ?_
        rintro e w2 ⟨rfl, rfl⟩
        clear hn hq
        go_wp2
        refine wp_loop_rounds 1 ?_
        rw [rounds_succ]
        go_wp2_with fail
        all_goals
          refine (works_any _).mono ?_
          rintro e w3 ⟨rfl, hb3⟩
          go_wp2
          go_ret
          exact ⟨rfl, hb3⟩
      · by_cases h3 : room ≤ 2000
        · obtain ⟨n, rfl⟩ : ∃ n : Nat, room = (n : Int) := ⟨room.toNat, by omega⟩
          exact playsF w n (by omega) (by omega) a len cap sts hs hcap hlen
        · have g1 : 2000 < room := by omega
          have g2 : room ≤ 1048576 := by omega
          clear hs h1 hlen h2 h3
          go_enter Try.func3, Try.ntmps3
          go_wp2_with fail
          refine (works_any _).mono ?_
          rintro e w3 ⟨rfl, hb3⟩
          go_wp2
          go_ret
          exact ⟨rfl, hb3⟩
  · have g1 : 300 < (len : Int) := by omega
    clear hs hlen
    go_enter Try.func3, Try.ntmps3
    go_wp2_with fail
    refine (works_any _).mono ?_
    rintro e w3 ⟨rfl, hb3⟩
    go_wp2
    go_ret
    exact ⟨rfl, hb3⟩
end Go.Proofs.Ytdlcmmodhicieaa
