/-
  What is done with a path: a slice of such things that came in.
-/
import Derived.Test.YtkgfogepbclhkaaChecked
import Derived.Test.YtkgfogepbclhkaaFlds
import Derived.Test.YtkgfogepbclhkaaTurn
namespace Go.Proofs.Ytkgfogepbclhkaa
open Go.RowKit
set_option linter.unusedVariables false

/-- A thing to do. -/
structure PO where
  kind : Int
  n : Int
  full : Bool
  t : Int
  u : Int
instance : Inhabited PO := ⟨⟨0, 0, false, 0, 0⟩⟩
/-- A slice of things to do that came in (or nil), cell by cell. -/
def POpRow (w : World) (a : Option Addr) (len : Nat) (ss : List PO) : Prop :=
  ss.length = len ∧ ∀ (i : Nat) s, ss[i]? = some s → (Lit.int .i64 s.t).wf = true ∧ (Lit.int .i64 s.u).wf = true ∧
    ∃ g off, a = some ⟨g, off, none⟩ ∧ g < w.heap.size ∧ w.cell? ⟨g, off + i * 5, none⟩ = some (.int .i64 s.kind) ∧ w.cell? ⟨g, off + i * 5 + 1, none⟩ = some (.int .i64 s.n) ∧ w.cell? ⟨g, off + i * 5 + 2, none⟩ = some (.bool s.full) ∧
      w.cell? ⟨g, off + i * 5 + 3, none⟩ = some (.int .i64 s.t) ∧ w.cell? ⟨g, off + i * 5 + 4, none⟩ = some (.int .i64 s.u)
theorem POpRow.turn {w w' : World} {a : Option Addr} {len : Nat} {ss : List PO} (h : POpRow w a len ss) (ht : Turn [] w w') : POpRow w' a len ss := by
  refine ⟨h.1, fun i s hs => ?_⟩
  obtain ⟨k1, k2, g, off, h1, h2, h3, h4, h5, h6, h7⟩ := h.2 i s hs
  exact ⟨k1, k2, g, off, h1, Nat.lt_of_lt_of_le h2 ht.size, (ht.cell (p := ⟨g, off + i * 5, none⟩) h2 (by simp)).trans h3, (ht.cell (p := ⟨g, off + i * 5 + 1, none⟩) h2 (by simp)).trans h4, (ht.cell (p := ⟨g, off + i * 5 + 2, none⟩) h2 (by simp)).trans h5,
    (ht.cell (p := ⟨g, off + i * 5 + 3, none⟩) h2 (by simp)).trans h6, (ht.cell (p := ⟨g, off + i * 5 + 4, none⟩) h2 (by simp)).trans h7⟩
def IsPOps (w : World) (a : Option Addr) (len cap : Nat) (ss : List PO) : Prop := POpRow w a len ss ∧ len ≤ cap

section
open Go.ChangeShapes Go.WideShapes Go.Deep
theorem pops_in {H : Type} {enc : TypeId × Value → H} {w : World} {base : Nat} {spare : Nat → Bool} {held : Bool} {fuel : Nat} {a : Option Addr} {len cap : Nat} {x : DataW H × List MemPlace}
    (h : DataW.trod enc Try.prog w base spare held fuel 24 [.slice a len cap] = some x) : ∃ ss, IsPOps w a len cap ss := by
  rcases open_flds_structs (ks := [.int .i64, .int .i64, .bool, .int .i64, .int .i64]) Try.underlying24 Try.underlying36 (by kernel_rfl) (by kernel_rfl) (by kernel_rfl) h with h0 | ⟨y, len', cap', m, h0, hl, hm, hlm, hall⟩
  · simp only [List.cons.injEq, Value.slice.injEq, and_true] at h0
    obtain ⟨rfl, rfl, rfl⟩ := h0
    exact ⟨[], ⟨rfl, fun i s hs => by simp at hs⟩, Nat.le_refl _⟩
  · simp only [List.cons.injEq, Value.slice.injEq, and_true] at h0
    obtain ⟨rfl, rfl, rfl⟩ := h0
    have hp : ∀ i, i < len → ∃ s : PO, (Lit.int .i64 s.t).wf = true ∧ (Lit.int .i64 s.u).wf = true ∧ ∃ g off, y = ⟨g, off, none⟩ ∧ g < w.heap.size ∧ w.cell? ⟨g, off + i * 5, none⟩ = some (.int .i64 s.kind) ∧ w.cell? ⟨g, off + i * 5 + 1, none⟩ = some (.int .i64 s.n) ∧ w.cell? ⟨g, off + i * 5 + 2, none⟩ = some (.bool s.full) ∧
        w.cell? ⟨g, off + i * 5 + 3, none⟩ = some (.int .i64 s.t) ∧ w.cell? ⟨g, off + i * 5 + 4, none⟩ = some (.int .i64 s.u) := by
      intro i hi
      obtain ⟨v0, c0, _⟩ := hall 0 (by omega) 0 (.int .i64) rfl
      obtain ⟨v1, c1, z1, rfl, _⟩ := hall i (by omega) 0 (.int .i64) rfl
      obtain ⟨v2, c2, z2, rfl, _⟩ := hall i (by omega) 1 (.int .i64) rfl
      obtain ⟨v3, c3, z3, rfl⟩ := hall i (by omega) 2 .bool rfl
      obtain ⟨v4, c4, z4, rfl, y4⟩ := hall i (by omega) 3 (.int .i64) rfl
      obtain ⟨v5, c5, z5, rfl, y5⟩ := hall i (by omega) 4 (.int .i64) rfl
      obtain ⟨b, off, spot⟩ := y
      have hspot : spot = none := by simpa [Addr.add] using World.cell?_spot c0
      subst hspot
      have hadd : ∀ k, (⟨b, off, none⟩ : Addr).add k = ⟨b, off + k, none⟩ := by intro k; unfold Addr.add; split <;> simp_all
      rw [hadd] at c1 c2 c3 c4 c5
      exact ⟨⟨z1, z2, z3, z4, z5⟩, y4, y5, b, off, rfl, World.block_lt_of_cell? w _ c1, c1, c2, c3, c4, c5⟩
    obtain ⟨ss, hss, hall2⟩ := choose_below len hp
    refine ⟨ss, ⟨hss, fun i s hs => ?_⟩, hl⟩
    obtain ⟨k1, k2, g, off, h1, h2⟩ := hall2 i s hs
    exact ⟨k1, k2, g, off, by rw [h1], h2⟩
end
end Go.Proofs.Ytkgfogepbclhkaa
