/-
  A slice of numbers that came in, of whatever kind, element by element. Program apart.
-/
import Derived.Test.YtkgfogepbclhkaaFrame
namespace Go.Proofs.Ytkgfogepbclhkaa
open Go.RowKit
set_option linter.unusedVariables false

/-- The slice's elements are these numbers; they lie in memory that is there. -/
def Nums (k : IntKind) (w : World) (a : Option Addr) (len : Nat) (zs : List Int) : Prop :=
  zs.length = len ∧ len ≤ 9223372036854775807 ∧ (∀ z ∈ zs, (Lit.int k z).wf = true) ∧ ∀ (i : Nat) z, zs[i]? = some z → ∃ g off, a = some ⟨g, off, none⟩ ∧ g < w.heap.size ∧ w.cell? ⟨g, off + i, none⟩ = some (.int k z)
theorem Nums.below {k : IntKind} {w w' : World} {a : Option Addr} {len : Nat} {zs : List Int} (h : Nums k w a len zs) {B : Nat} (ht : Below B w w') (hB : w.heap.size ≤ B) : Nums k w' a len zs := by
  refine ⟨h.1, h.2.1, h.2.2.1, fun i z hz => ?_⟩
  obtain ⟨g, off, h1, h2, h3⟩ := h.2.2.2 i z hz
  exact ⟨g, off, h1, Nat.lt_of_lt_of_le h2 ht.size, (ht.cell (p := ⟨g, off + i, none⟩) (by show g < B; omega)).trans h3⟩
theorem IsRow.nums {k : IntKind} {w : World} {a : Option Addr} {len cap : Nat} {zs : List Int} (h : IsRow k w a len cap zs) : Nums k w a len (zs.take len) ∧ len ≤ cap := by
  rcases h with ⟨rfl, rfl, rfl, rfl⟩ | ⟨x, rfl, hl, hm, hz, hc, hw⟩
  · exact ⟨⟨rfl, by omega, by intro z hz; simp at hz, by intro i z hz; simp at hz⟩, Nat.le_refl _⟩
  · refine ⟨⟨by simp; omega, by unfold maxLen at hm; omega, ?_, ?_⟩, hl⟩
    · intro z hz'
      exact hw z (List.mem_of_mem_take hz')
    · intro i z hi
      have hi1 : i < (zs.take len).length := (List.getElem?_eq_some_iff.1 hi).1
      have hi2 : i < zs.length := by simp at hi1; omega
      have h1 := hc i hi2
      rw [List.getElem?_take] at hi
      split at hi
      · have hv : zs.getD i 0 = z := by simp [hi]
        rw [hv] at h1
        obtain ⟨b, off, spot⟩ := x
        have hspot : spot = none := by simpa [Addr.add] using World.cell?_spot (hc 0 (by omega))
        subst hspot
        have hadd : (⟨b, off, none⟩ : Addr).add i = ⟨b, off + i, none⟩ := by unfold Addr.add; split <;> simp_all
        rw [hadd] at h1
        exact ⟨b, off, rfl, World.block_lt_of_cell? w _ h1, h1⟩
      · cases hi

/-- Numbers as cells. -/
def cells32 (zs : List Int) : List Value := zs.map (Value.int .u32)
theorem cells32_next {zs : List Int} {k : Nat} {z : Int} (h : zs[k]? = some z) : cells32 (zs.take (k + 1)) = cells32 (zs.take k) ++ [.int .u32 z] := by
  unfold cells32
  rw [List.take_add_one, h]
  simp
theorem cells32_drop {zs : List Int} {k : Nat} {z : Int} (h : zs[k]? = some z) : cells32 (zs.drop k) = .int .u32 z :: cells32 (zs.drop (k + 1)) := by
  unfold cells32
  have hk := (List.getElem?_eq_some_iff.1 h).1
  rw [List.drop_eq_getElem_cons hk]
  have : zs[k] = z := (List.getElem?_eq_some_iff.1 h).2
  simp [this]
theorem cells32_len (zs : List Int) : (cells32 zs).length = zs.length := by simp [cells32]
end Go.Proofs.Ytkgfogepbclhkaa
