/-
  Package window: what a window is in memory (the program's and the reference's: their cells are the same).
-/
import Derived.Test.YtkgfogepbclhkaaArr
import Derived.Test.YtkgfogepbclhkaaTurn
import Derived.Test.YtkgfogepbclhkaaWnMath
namespace Go.Proofs.Ytkgfogepbclhkaa
open Go.RowKit
set_option linter.unusedVariables false

def wnC (mtu most size thr part : Int) : List Value := [.int .i64 mtu, .int .i64 most, .int .i64 size, .int .i64 thr, .int .i64 part]
/-- Block g holds a window (of struct type T). -/
structure Wn (T : TypeId) (w : World) (g : Nat) (mtu most size thr part : Int) (c : Nat) : Prop where
  blk : Arr w g T (wnC mtu most size thr part)
  good : WGood mtu most size thr part c
section
variable {T : TypeId} {w : World} {g : Nat} {mtu most size thr part : Int} {c : Nat}
theorem Arr.kept {T : TypeId} {cs : List Value} (h : Arr w g T cs) {w' : World} {bs : List Nat} (ht : Turn bs w w') (hn : g ∉ bs) : Arr w' g T cs := (ht.block g h.lt hn).trans h
theorem Wn.lt (h : Wn T w g mtu most size thr part c) : g < w.heap.size := h.blk.lt
theorem Wn.turn (h : Wn T w g mtu most size thr part c) {w' : World} {bs : List Nat} (ht : Turn bs w w') (hn : g ∉ bs) : Wn T w' g mtu most size thr part c := ⟨h.blk.kept ht hn, h.good⟩
theorem Wn.keep (h : Wn T w g mtu most size thr part c) {w' : World} (hb : Below w.heap.size w w') : Wn T w' g mtu most size thr part c := ⟨h.blk.keep hb, h.good⟩
theorem wnC_size (h : Arr w g T (wnC mtu most size thr part)) (s : Int) : Arr (w.setCell ⟨g, 2, none⟩ (.int .i64 s)) g T (wnC mtu most s thr part) := h.set 2 _
theorem wnC_thr (h : Arr w g T (wnC mtu most size thr part)) (s : Int) : Arr (w.setCell ⟨g, 3, none⟩ (.int .i64 s)) g T (wnC mtu most size s part) := h.set 3 _
theorem wnC_part (h : Arr w g T (wnC mtu most size thr part)) (s : Int) : Arr (w.setCell ⟨g, 4, none⟩ (.int .i64 s)) g T (wnC mtu most size thr s) := h.set 4 _
end
end Go.Proofs.Ytkgfogepbclhkaa
