/-
  The walk of RingNew.
-/
import Derived.Test.YtdlcmmodhicieaaRingWorks
import Derived.Test.YtdlcmmodhicieaaRingBool
import Derived.Test.YtdlcmmodhicieaaFrame
namespace Go.Proofs.Ytdlcmmodhicieaa
open Go.RowKit
set_option linter.unusedVariables false

set_option maxHeartbeats 800000 in
theorem ringNew_walk (n : Int) (w : World) (wn : (Lit.int .i64 n).wf = true) :
    Calls Try.prog 8 #[.int .i64 n] w fun e w' => e = .returned (.bool true) ∧ Below w.heap.size w w' := by
  clear wn
  have hwk := works_any w
  by_cases h0 : 4000 < n ∧ n < 1048576
  · obtain ⟨h1, h2⟩ := h0
    go_enter Try.func8, Try.ntmps8
    go_wp2_with fail
    refine hwk.mono ?_
    rintro e w1 ⟨rfl, hb1⟩
    go_wp2
    go_ret
    exact ⟨rfl, hb1⟩
  · have no : ∀ w, Calls Try.prog 32 #[.int .i64 n] w (fun e w' => e = .returned (.tuple #[.pointer none, .int .i64 1]) ∧ w = w') ∨ (1 ≤ n ∧ n ≤ 1048576) := by
      intro w
      by_cases h : n < 1 ∨ 1048576 < n
      · exact .inl (new_no_bool w n h)
      · exact .inr (by omega)
    by_cases h1 : n < 1
    · have hn := new_no_bool w n (.inl h1)
      have g1 : decide (4000 < n) = false := by rw [decide_eq_false_iff_not]; omega
      clear h0 no
      go_enter Try.func8, Try.ntmps8
      go_wp2_with fail
      refine hn.mono ?_
      rintro e w1 ⟨rfl, rfl⟩
      go_wp2_with fail
      refine hwk.mono ?_
      rintro e w1 ⟨rfl, hb1⟩
      go_wp2
      go_ret
      exact ⟨rfl, hb1⟩
    · by_cases h2 : 1048576 < n
      · have hn := new_no_bool w n (.inr h2)
        have g1 : 4000 < n := by omega
        have g2 : decide (n < 1048576) = false := by rw [decide_eq_false_iff_not]; omega
        have g3 : decide (n < 1) = false := by rw [decide_eq_false_iff_not]; omega
        clear h0 no h1
        go_enter Try.func8, Try.ntmps8
        go_wp2_with fail
        refine hn.mono ?_
        rintro e w1 ⟨rfl, rfl⟩
        go_wp2_with fail
        refine hwk.mono ?_
        rintro e w1 ⟨rfl, hb1⟩
        go_wp2
        go_ret
        exact ⟨rfl, hb1⟩
      · obtain ⟨k, rfl⟩ : ∃ k : Nat, n = (k : Int) := ⟨n.toNat, by omega⟩
        have hn := new_my_bool w.heap.size w (Nat.le_refl _) k (by omega) (by omega)
        have g3 : decide ((k : Int) < 1) = false := by rw [decide_eq_false_iff_not]; exact h1
        have g4 : decide (1048576 < (k : Int)) = false := by rw [decide_eq_false_iff_not]; exact h2
        clear no h1 h2 hwk
        by_cases h5 : 4000 < (k : Int)
        · have g2 : decide ((k : Int) < 1048576) = false := by rw [decide_eq_false_iff_not]; exact fun h => h0 ⟨h5, h⟩
          clear h0
          go_enter Try.func8, Try.ntmps8
          go_wp2_with fail
          refine hn.mono ?_
          rintro e w1 ⟨rb, cb, rfl, hr1, hb1⟩
          clear hn
          go_wp2_with fail
          refine (len_my_bool _ w1 rb cb k 0 _ hr1).mono ?_
          rintro e w' ⟨rfl, rfl⟩
          go_wp2_with fail
          refine (room_my_bool _ w1 rb cb k 0 _ hr1).mono ?_
          rintro e w2 ⟨rfl, hr2, hb2⟩
          go_wp2_with fail
          refine (works_any w2).mono ?_
          rintro e w3 ⟨rfl, hb3⟩
          go_wp2
          go_ret
          exact ⟨rfl, hb1.trans (hb2.trans (hb3.mono (by have := hr2.size; omega)))⟩
        · have g2 : decide (4000 < (k : Int)) = false := by rw [decide_eq_false_iff_not]; exact h5
          clear h0 h5
          go_enter Try.func8, Try.ntmps8
          go_wp2_with fail
          refine hn.mono ?_
          rintro e w1 ⟨rb, cb, rfl, hr1, hb1⟩
          clear hn
          go_wp2_with fail
          refine (len_my_bool _ w1 rb cb k 0 _ hr1).mono ?_
          rintro e w' ⟨rfl, rfl⟩
          go_wp2_with fail
          refine (room_my_bool _ w1 rb cb k 0 _ hr1).mono ?_
          rintro e w2 ⟨rfl, hr2, hb2⟩
          go_wp2_with fail
          refine (works_any w2).mono ?_
          rintro e w3 ⟨rfl, hb3⟩
          go_wp2
          go_ret
          exact ⟨rfl, hb1.trans (hb2.trans (hb3.mono (by have := hr2.size; omega)))⟩
end Go.Proofs.Ytdlcmmodhicieaa
