/-
  A block of cells of any type (a boxed struct, an array): program apart.
-/
import Derived.Test.YtkgfogepbclhkaaBase
import Derived.Deep.MidRow
namespace Go.Proofs.Ytkgfogepbclhkaa
open Go.RowKit
set_option linter.unusedVariables false

/-- Block g is a row of just these cells, of that type. -/
def Arr (w : World) (g : Nat) (T : TypeId) (cs : List Value) : Prop := w.heap[g]? = some (.cells cs.toArray T (0, 0))
theorem Arr.below {w w' : World} {g : Nat} {T : TypeId} {cs : List Value} (h : Arr w g T cs) {B : Nat} (hb : Below B w w') (hg : g < B) : Arr w' g T cs := (hb.block g hg).trans h
theorem Arr.lt {w : World} {g : Nat} {T : TypeId} {cs : List Value} (h : Arr w g T cs) : g < w.heap.size := (Array.getElem?_eq_some_iff.1 h).1
theorem Arr.keep {w w' : World} {g : Nat} {T : TypeId} {cs : List Value} (h : Arr w g T cs) (hb : Below w.heap.size w w') : Arr w' g T cs := h.below hb h.lt
theorem Arr.off {w : World} {g : Nat} {T : TypeId} {cs : List Value} (h : Arr w g T cs) {p : Addr} (u : Value) (hn : g ≠ p.block) : Arr (w.setCell p u) g T cs := (Below.heap_setCell w p u g hn).trans h
theorem arr_new (w : World) (T : TypeId) (cs : List Value) : Arr (w.alloc (.cells cs.toArray T)) w.heap.size T cs := heap_alloc_new _ _
theorem Arr.cell {w : World} {g : Nat} {T : TypeId} {cs : List Value} (h : Arr w g T cs) {i : Nat} {v : Value} (hi : cs[i]? = some v) : w.cell? ⟨g, i, none⟩ = some v := by
  rw [cell_of_row w g i _ _ (0, 0) h]
  simp [hi]
theorem Arr.free {w : World} {g : Nat} {T : TypeId} {cs : List Value} (h : Arr w g T cs) (i : Nat) : w.frozen? ⟨g, i, none⟩ = false := by
  unfold Arr at h; simp [World.frozen?, h]
theorem Arr.set {w : World} {g : Nat} {T : TypeId} {cs : List Value} (h : Arr w g T cs) (i : Nat) (v : Value) : Arr (w.setCell ⟨g, i, none⟩ v) g T (cs.set i v) := by
  unfold Arr at h ⊢
  simp [World.setCell, Array.getElem?_modify, h]
theorem Arr.range {w : World} {g : Nat} {T : TypeId} {cs : List Value} (h : Arr w g T cs) : w.rangeAt g 0 cs := fun j v hv => by rw [Nat.zero_add]; exact h.cell hv
end Go.Proofs.Ytkgfogepbclhkaa
