/-
  The conversion of a constant text's row to a slice of its own type: the row gets a mark behind its last cell, and nothing else turns. At whatever world.
-/
import Derived.Test.YtlgcplopibblbaaDoorBase
import Derived.Laws.IdiomStrings
namespace Go.Proofs.YtlgcplopibblbaaDoor
open Go.RowKit
set_option linter.unusedVariables false

/-- The world, with block g marked behind its last cell. -/
def markW (W : World) (g : Nat) : World := match W.shape? g with
  | some (_, n) => W.freeze ⟨g, n, none⟩ 1
  | none => W

theorem freeze_block (W : World) (g k : Nat) (b : Nat) (hb : b ≠ g) : (W.freeze ⟨g, k, none⟩ 1).heap[b]? = W.heap[b]? := by
  unfold World.freeze
  rw [if_neg (by decide)]
  simp only [Array.getElem?_modify]
  rw [if_neg (fun e => hb e.symm)]
theorem freeze_size (W : World) (g k : Nat) : (W.freeze ⟨g, k, none⟩ 1).heap.size = W.heap.size := by
  unfold World.freeze
  rw [if_neg (by decide)]
  simp
theorem freeze_cell (W : World) (g k : Nat) (a : Addr) : (W.freeze ⟨g, k, none⟩ 1).cell? a = W.cell? a := by
  by_cases hb : a.block = g
  · unfold World.freeze
    rw [if_neg (by decide)]
    simp only [World.cell?, Array.getElem?_modify]
    rw [if_pos hb.symm]
    cases h : W.heap[a.block]? with
    | none => simp
    | some o =>
      cases o <;> simp
  · exact World.cell?_of_block (w := W) (freeze_block W g k a.block hb)

theorem markW_size (W : World) (g : Nat) : (markW W g).heap.size = W.heap.size := by
  unfold markW; split
  · exact freeze_size _ _ _
  · rfl
theorem markW_cell (W : World) (g : Nat) (a : Addr) : (markW W g).cell? a = W.cell? a := by
  unfold markW; split
  · exact freeze_cell _ _ _ _
  · rfl
theorem markW_block (W : World) (g b : Nat) (hb : b ≠ g) : (markW W g).heap[b]? = W.heap[b]? := by
  unfold markW; split
  · exact freeze_block _ _ _ _ hb
  · rfl
theorem markW_flow (W : World) (g : Nat) : (markW W g).os = W.os ∧ (markW W g).tape = W.tape ∧ (markW W g).output = W.output := by
  unfold markW; split
  · unfold World.freeze; rw [if_neg (by decide)]; exact ⟨rfl, rfl, rfl⟩
  · exact ⟨rfl, rfl, rfl⟩
theorem below_mark {B : Nat} {a W : World} (h : Below B a W) {g : Nat} (hg : B ≤ g) : Below B a (markW W g) := by
  obtain ⟨f1, f2, f3⟩ := markW_flow W g
  exact ⟨f1.trans h.os, f2.trans h.tape, f3.trans h.output, by rw [markW_size]; exact h.size, fun k hk => (markW_block W g k (by omega)).trans (h.block k hk)⟩

theorem cell_alloc_if (W : World) (C : Array Value) (e : TypeId) (b k : Nat) : (W.alloc (.cells C e)).cell? ⟨b, k, none⟩ = if b = W.heap.size then C[k]? else W.cell? ⟨b, k, none⟩ := by
  by_cases h : b = W.heap.size
  · subst h
    rw [if_pos rfl]
    unfold World.cell? World.alloc
    simp
  · rw [if_neg h]
    unfold World.cell? World.alloc
    simp only [Array.getElem?_push]
    rw [if_neg h]

theorem run_convert_mark {P : Program} (W : World) (t e : TypeId) (g n c : Nat) (ht : P.underlying t = some (.slice e)) (he : P.underlying e = some (.int .u8)) :
    (convert t t (.slice (some ⟨g, 0, none⟩) n c)).run P W = .ok (.slice (some ⟨g, 0, none⟩) n c) (markW W g) := by
  cases h : W.shape? g with
  | none => simp [convert, run_underlying ht, run_underlying he, markStringish, h, markW]
  | some p =>
    obtain ⟨e', m⟩ := p
    simp [convert, run_underlying ht, run_underlying he, markStringish, h, markW]
end Go.Proofs.YtlgcplopibblbaaDoor
