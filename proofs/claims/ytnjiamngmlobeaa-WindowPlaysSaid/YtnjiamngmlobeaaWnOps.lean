/-
  What is done with a window: a slice of such things that came in.
-/
import Derived.Test.YtnjiamngmlobeaaChecked
import Derived.Test.YtnjiamngmlobeaaFlds
import Derived.Test.YtnjiamngmlobeaaTurn
namespace Go.Proofs.Ytnjiamngmlobeaa
open Go.RowKit
set_option linter.unusedVariables false

/-- A slice of things to do that came in (or nil): each its kind, its number, its Boolean. -/
def WOpRow (w : World) (a : Option Addr) (len : Nat) (ss : List (Int × Int × Bool)) : Prop :=
  ss.length = len ∧ ∀ (i : Nat) s, ss[i]? = some s →
    ∃ g off, a = some ⟨g, off, none⟩ ∧ g < w.heap.size ∧ w.cell? ⟨g, off + i * 3, none⟩ = some (.int .i64 s.1) ∧ w.cell? ⟨g, off + i * 3 + 1, none⟩ = some (.int .i64 s.2.1) ∧ w.cell? ⟨g, off + i * 3 + 2, none⟩ = some (.bool s.2.2)
theorem WOpRow.turn {w w' : World} {a : Option Addr} {len : Nat} {ss : List (Int × Int × Bool)} (h : WOpRow w a len ss) (ht : Turn [] w w') : WOpRow w' a len ss := by
  refine ⟨h.1, fun i s hs => ?_⟩
  obtain ⟨g, off, h1, h2, h3, h4, h5⟩ := h.2 i s hs
  exact ⟨g, off, h1, Nat.lt_of_lt_of_le h2 ht.size, (ht.cell (p := ⟨g, off + i * 3, none⟩) h2 (by simp)).trans h3, (ht.cell (p := ⟨g, off + i * 3 + 1, none⟩) h2 (by simp)).trans h4, (ht.cell (p := ⟨g, off + i * 3 + 2, none⟩) h2 (by simp)).trans h5⟩
def IsWOps (w : World) (a : Option Addr) (len cap : Nat) (ss : List (Int × Int × Bool)) : Prop := WOpRow w a len ss ∧ len ≤ cap

section
open Go.ChangeShapes Go.WideShapes Go.Deep
theorem wops_in {H : Type} {enc : TypeId × Value → H} {w : World} {base : Nat} {spare : Nat → Bool} {held : Bool} {fuel : Nat} {a : Option Addr} {len cap : Nat} {x : DataW H × List MemPlace}
    (h : DataW.trod enc Try.prog w base spare held fuel 22 [.slice a len cap] = some x) : ∃ ss, IsWOps w a len cap ss := by
  rcases open_flds_structs (ks := [.int .i64, .int .i64, .bool]) Try.underlying22 Try.underlying33 (by kernel_rfl) (by kernel_rfl) (by kernel_rfl) h with h0 | ⟨y, len', cap', m, h0, hl, hm, hlm, hall⟩
  · simp only [List.cons.injEq, Value.slice.injEq, and_true] at h0
    obtain ⟨rfl, rfl, rfl⟩ := h0
    exact ⟨[], ⟨rfl, fun i s hs => by simp at hs⟩, Nat.le_refl _⟩
  · simp only [List.cons.injEq, Value.slice.injEq, and_true] at h0
    obtain ⟨rfl, rfl, rfl⟩ := h0
    have hp : ∀ i, i < len → ∃ s : Int × Int × Bool, ∃ g off, y = ⟨g, off, none⟩ ∧ g < w.heap.size ∧ w.cell? ⟨g, off + i * 3, none⟩ = some (.int .i64 s.1) ∧ w.cell? ⟨g, off + i * 3 + 1, none⟩ = some (.int .i64 s.2.1) ∧ w.cell? ⟨g, off + i * 3 + 2, none⟩ = some (.bool s.2.2) := by
      intro i hi
      obtain ⟨v0, c0, _⟩ := hall 0 (by omega) 0 (.int .i64) rfl
      obtain ⟨v1, c1, z1, rfl, _⟩ := hall i (by omega) 0 (.int .i64) rfl
      obtain ⟨v2, c2, z2, rfl, _⟩ := hall i (by omega) 1 (.int .i64) rfl
      obtain ⟨v3, c3, z3, rfl⟩ := hall i (by omega) 2 .bool rfl
      obtain ⟨b, off, spot⟩ := y
      have hspot : spot = none := by simpa [Addr.add] using World.cell?_spot c0
      subst hspot
      have hadd : ∀ k, (⟨b, off, none⟩ : Addr).add k = ⟨b, off + k, none⟩ := by intro k; unfold Addr.add; split <;> simp_all
      rw [hadd] at c1 c2 c3
      refine ⟨(z1, z2, z3), b, off, rfl, World.block_lt_of_cell? w _ c1, c1, c2, c3⟩
    obtain ⟨ss, hss, hall2⟩ := choose_below len hp
    refine ⟨ss, ⟨hss, fun i s hs => ?_⟩, hl⟩
    obtain ⟨g, off, h1, h2⟩ := hall2 i s hs
    exact ⟨g, off, by rw [h1], h2⟩
end
end Go.Proofs.Ytnjiamngmlobeaa
