/-
  A whole block of words of 32 bits, the words as Nat. Program apart.
-/
import Derived.Test.YtcmaclaiholpfaaDoorMgA
namespace Go.Proofs.YtcmaclaiholpfaaDoor
open Go.RowKit
set_option linter.unusedVariables false

def word (x : Nat) : Value := .int .u32 (x : Int)
/-- Block g is a row of just these words. -/
def Blk32 (w : World) (g : Nat) (ws : List Nat) : Prop := w.heap[g]? = some (.cells (ws.map word).toArray 23 (0, 0))
section
variable {w w' : World} {g : Nat} {ws : List Nat}
theorem Blk32.lt (h : Blk32 w g ws) : g < w.heap.size := (Array.getElem?_eq_some_iff.1 h).1
theorem Blk32.cell (h : Blk32 w g ws) {i : Nat} {x : Nat} (hi : ws[i]? = some x) : w.cell? ⟨g, i, none⟩ = some (.int .u32 (x : Int)) := by
  rw [cell_of_row w g i _ _ (0, 0) h]
  simp [hi, word]
theorem Blk32.free (h : Blk32 w g ws) (i : Nat) : w.frozen? ⟨g, i, none⟩ = false := by
  unfold Blk32 at h; simp [World.frozen?, h]
theorem Blk32.turn (h : Blk32 w g ws) {bs : List Nat} (ht : Turn bs w w') (hn : g ∉ bs) : Blk32 w' g ws := (ht.block g h.lt hn).trans h
theorem Blk32.below (h : Blk32 w g ws) (hb : Below w.heap.size w w') : Blk32 w' g ws := (hb.block g h.lt).trans h
theorem Blk32.set (h : Blk32 w g ws) (i x : Nat) : Blk32 (w.setCell ⟨g, i, none⟩ (.int .u32 (x : Int))) g (ws.set i x) := by
  unfold Blk32 at h ⊢
  simp [World.setCell, Array.getElem?_modify, h, List.map_set, word]
theorem Blk32.drewN (h : Blk32 w g ws) (n : Nat) : Blk32 (w.drewN n) g ws := h
end
theorem blk32_made (w : World) (n : Nat) : Blk32 (w.alloc (.cells (madeCells #[Value.int .u32 0] n) 23)) w.heap.size (List.replicate n 0) := by
  unfold Blk32
  rw [heap_alloc_new]
  congr 2
  apply Array.toList_inj.1
  rw [toList_madeCells_one]
  simp [word]
end Go.Proofs.YtcmaclaiholpfaaDoor
