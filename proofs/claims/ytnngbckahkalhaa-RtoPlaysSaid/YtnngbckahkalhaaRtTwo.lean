/-
  The program's estimator and the reference's, side by side.
-/
import Derived.Test.YtnngbckahkalhaaRtWk
import Derived.Test.YtnngbckahkalhaaRtRef2
import Derived.Test.YtnngbckahkalhaaRtOps
import Derived.Test.YtnngbckahkalhaaGoodW
namespace Go.Proofs.Ytnngbckahkalhaa
open Go.RowKit
set_option linter.unusedVariables false

theorem rback_nil (w : World) :
    Calls Try.prog 13 #[.pointer none] w fun e w' => e = .returned (.tuple #[]) ∧ w = w' := by
  go_enter Try.func13, Try.ntmps13
  go_wp2
  go_end0
  exact ⟨rfl, rfl⟩
theorem rsample_nil (w : World) (t : Int) :
    Calls Try.prog 15 #[.pointer none, .int .i64 t] w fun e w' => e = .returned (.int .i64 2) ∧ w = w' := by
  go_enter Try.func15, Try.ntmps15
  go_wp2
  go_ret
  exact ⟨rfl, rfl⟩

theorem sample_two (x lo hi : Int) (any : Bool) (S V t : Int) : ∃ er x' any' S' V',
    (∀ W g, Est 44 W g x lo hi any S V → Calls Try.prog 14 #[.pointer (some ⟨g, 0, none⟩), .int .i64 t] W fun e w' => e = .returned (.int .i64 er) ∧ Est 44 w' g x' lo hi any' S' V' ∧ Turn [g] W w') ∧
    (∀ W g, Est 46 W g x lo hi any S V → Calls Try.prog 15 #[.pointer (some ⟨g, 0, none⟩), .int .i64 t] W fun e w' => e = .returned (.int .i64 er) ∧ Est 46 w' g x' lo hi any' S' V' ∧ Turn [g] W w') := by
  by_cases ht : t < 0
  · refine ⟨1, x, any, S, V, fun W g h => (sample_neg W g t ht).mono ?_, fun W g h => (rsample_neg W g t ht).mono ?_⟩
    · rintro e w' ⟨rfl, rfl⟩
      exact ⟨rfl, h, Turn.refl _ _⟩
    · rintro e w' ⟨rfl, rfl⟩
      exact ⟨rfl, h, Turn.refl _ _⟩
  · exact ⟨0, _, _, _, _, fun W g h => sample_any W g x lo hi any S V t h (by omega), fun W g h => rsample_any W g x lo hi any S V t h (by omega)⟩
theorem smooth_two (x lo hi : Int) (any : Bool) (S V : Int) : ∃ so sb,
    (∀ W g, Est 44 W g x lo hi any S V → Calls Try.prog 16 #[.pointer (some ⟨g, 0, none⟩)] W fun e w' => e = .returned (.tuple #[.int .i64 so, .bool sb]) ∧ W = w') ∧
    (∀ W g, Est 46 W g x lo hi any S V → Calls Try.prog 17 #[.pointer (some ⟨g, 0, none⟩)] W fun e w' => e = .returned (.tuple #[.int .i64 so, .bool sb]) ∧ W = w') := by
  cases any
  · exact ⟨_, _, fun W g h => smooth_no W g x lo hi S V h, fun W g h => rsmooth_no W g x lo hi S V h⟩
  · exact ⟨_, _, fun W g h => smooth_yes W g x lo hi S V h, fun W g h => rsmooth_yes W g x lo hi S V h⟩

/-- What is so while a region with two writing calls (its operations 6 and 13) runs. -/
def JP (wr : World) (g1 g2 : Nat) (A A' B B' : World → Prop) (l : Array Bool) (W : World) : Prop :=
  Turn [g1, g2] wr W ∧ (l.getD 6 false = false → A W) ∧ (l.getD 6 false = true → A' W) ∧ (l.getD 13 false = false → B W) ∧ (l.getD 13 false = true → B' W)
section
variable {wr : World} {g1 g2 : Nat} {A A' B B' : World → Prop} {l : Array Bool} {W : World}
theorem JP.keep (h : JP wr g1 g2 A A' B B' l W) {i : Nat} (h6 : i ≠ 6) (h13 : i ≠ 13) : JP wr g1 g2 A A' B B' (l.setIfInBounds i true) W := by
  unfold JP
  rw [Vals.getD_set_other h6, Vals.getD_set_other h13]
  exact h
theorem JP.first (h : JP wr g1 g2 A A' B B' l W) (hs : 6 < l.size) {W' : World} (ht : Turn [g1] W W') (hA : A' W') (hB : B W → B W') (hB' : B' W → B' W') : JP wr g1 g2 A A' B B' (l.setIfInBounds 6 true) W' := by
  unfold JP
  rw [Vals.getD_set_last hs, Vals.getD_set_other (by decide)]
  exact ⟨h.1.trans (ht.mono (by simp)), (fun h => by cases h), fun _ => hA, fun k => hB (h.2.2.2.1 k), fun k => hB' (h.2.2.2.2 k)⟩
theorem JP.second (h : JP wr g1 g2 A A' B B' l W) (hs : 13 < l.size) {W' : World} (ht : Turn [g2] W W') (hB : B' W') (hA : A W → A W') (hA' : A' W → A' W') : JP wr g1 g2 A A' B B' (l.setIfInBounds 13 true) W' := by
  unfold JP
  rw [Vals.getD_set_last hs, Vals.getD_set_other (by decide)]
  exact ⟨h.1.trans (ht.mono (by simp)), fun k => hA (h.2.1 k), fun k => hA' (h.2.2.1 k), (fun h => by cases h), fun _ => hB⟩
end
end Go.Proofs.Ytnngbckahkalhaa
