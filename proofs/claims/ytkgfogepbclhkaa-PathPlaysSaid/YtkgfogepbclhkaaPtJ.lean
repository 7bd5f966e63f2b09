/-
  What is so of the world while a drawn region runs that holds one, or two, calls that write (of whatever number). Program apart.
-/
import Derived.Test.YtkgfogepbclhkaaGoodW
import Derived.Test.YtkgfogepbclhkaaTurn
namespace Go.Proofs.Ytkgfogepbclhkaa
open Go.RowKit
set_option linter.unusedVariables false

/-- One writing call: the region's operation n. -/
def J1 (n : Nat) (bs : List Nat) (wr : World) (A A' : World → Prop) (l : Array Bool) (W : World) : Prop :=
  Turn bs wr W ∧ (l.getD n false = false → A W) ∧ (l.getD n false = true → A' W)
section
variable {n : Nat} {bs : List Nat} {wr : World} {A A' : World → Prop} {l : Array Bool} {W : World}
theorem J1.keep (h : J1 n bs wr A A' l W) {i : Nat} (hn : i ≠ n) : J1 n bs wr A A' (l.setIfInBounds i true) W := by
  unfold J1
  rw [Vals.getD_set_other hn]
  exact h
theorem J1.quiet (h : J1 n bs wr A A' l W) {i : Nat} (hn : i ≠ n) {W' : World} (ht : Turn [] W W') (hA : A W → A W') (hA' : A' W → A' W') : J1 n bs wr A A' (l.setIfInBounds i true) W' := by
  unfold J1
  rw [Vals.getD_set_other hn]
  exact ⟨h.1.trans (ht.mono (by simp)), fun k => hA (h.2.1 k), fun k => hA' (h.2.2 k)⟩
theorem J1.first (h : J1 n bs wr A A' l W) (hs : n < l.size) {W' : World} (ht : Turn bs W W') (hA : A' W') : J1 n bs wr A A' (l.setIfInBounds n true) W' := by
  unfold J1
  rw [Vals.getD_set_last hs]
  exact ⟨h.1.trans ht, (fun h => by cases h), fun _ => hA⟩
end

/-- Two writing calls: the region's operations n and m; the one turns bs, the other cs. -/
def J2 (n m : Nat) (bs cs : List Nat) (wr : World) (A A' B B' : World → Prop) (l : Array Bool) (W : World) : Prop :=
  Turn (bs ++ cs) wr W ∧ (l.getD n false = false → A W) ∧ (l.getD n false = true → A' W) ∧ (l.getD m false = false → B W) ∧ (l.getD m false = true → B' W)
section
variable {n m : Nat} {bs cs : List Nat} {wr : World} {A A' B B' : World → Prop} {l : Array Bool} {W : World}
theorem J2.keep (h : J2 n m bs cs wr A A' B B' l W) {i : Nat} (hn : i ≠ n) (hm : i ≠ m) : J2 n m bs cs wr A A' B B' (l.setIfInBounds i true) W := by
  unfold J2
  rw [Vals.getD_set_other hn, Vals.getD_set_other hm]
  exact h
theorem J2.quiet (h : J2 n m bs cs wr A A' B B' l W) {i : Nat} (hn : i ≠ n) (hm : i ≠ m) {W' : World} (ht : Turn [] W W') (hA : A W → A W') (hA' : A' W → A' W') (hB : B W → B W') (hB' : B' W → B' W') : J2 n m bs cs wr A A' B B' (l.setIfInBounds i true) W' := by
  unfold J2
  rw [Vals.getD_set_other hn, Vals.getD_set_other hm]
  exact ⟨h.1.trans (ht.mono (by simp)), fun k => hA (h.2.1 k), fun k => hA' (h.2.2.1 k), fun k => hB (h.2.2.2.1 k), fun k => hB' (h.2.2.2.2 k)⟩
theorem J2.first (h : J2 n m bs cs wr A A' B B' l W) (hs : n < l.size) (hnm : n ≠ m) {W' : World} (ht : Turn bs W W') (hA : A' W') (hB : B W → B W') (hB' : B' W → B' W') : J2 n m bs cs wr A A' B B' (l.setIfInBounds n true) W' := by
  unfold J2
  rw [Vals.getD_set_last hs, Vals.getD_set_other hnm]
  exact ⟨h.1.trans (ht.mono (by simp +contextual)), (fun h => by cases h), fun _ => hA, fun k => hB (h.2.2.2.1 k), fun k => hB' (h.2.2.2.2 k)⟩
theorem J2.second (h : J2 n m bs cs wr A A' B B' l W) (hs : m < l.size) (hnm : n ≠ m) {W' : World} (ht : Turn cs W W') (hB : B' W') (hA : A W → A W') (hA' : A' W → A' W') : J2 n m bs cs wr A A' B B' (l.setIfInBounds m true) W' := by
  unfold J2
  rw [Vals.getD_set_last hs, Vals.getD_set_other (fun e => hnm e.symm)]
  exact ⟨h.1.trans (ht.mono (by simp +contextual)), fun k => hA (h.2.1 k), fun k => hA' (h.2.2.1 k), (fun h => by cases h), fun _ => hB⟩
end
end Go.Proofs.Ytkgfogepbclhkaa
