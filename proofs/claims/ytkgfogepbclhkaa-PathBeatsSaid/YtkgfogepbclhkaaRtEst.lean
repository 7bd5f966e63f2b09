/-
  Package rto: what an estimator is in memory (the program's and the reference's: their cells are the same).
-/
import Derived.Test.YtkgfogepbclhkaaArr
import Derived.Test.YtkgfogepbclhkaaTurn
import Derived.Test.YtkgfogepbclhkaaRtMath
namespace Go.Proofs.Ytkgfogepbclhkaa
open Go.RowKit
set_option linter.unusedVariables false

/-- Block g holds an estimator (of struct type T). -/
def estC (x lo hi : Int) (any : Bool) (S V : Int) : List Value := [.int .i64 x, .int .i64 lo, .int .i64 hi, .bool any, .int .i64 S, .int .i64 V]
structure Est (T : TypeId) (w : World) (g : Nat) (x lo hi : Int) (any : Bool) (S V : Int) : Prop where
  blk : Arr w g T (estC x lo hi any S V)
  good : Good x lo hi any S V
section
variable {T : TypeId} {w : World} {g : Nat} {x lo hi : Int} {any : Bool} {S V : Int}
theorem Arr.turn {T : TypeId} {cs : List Value} (h : Arr w g T cs) {w' : World} {bs : List Nat} (ht : Turn bs w w') (hn : g ∉ bs) : Arr w' g T cs := (ht.block g h.lt hn).trans h
theorem Est.lt (h : Est T w g x lo hi any S V) : g < w.heap.size := h.blk.lt
theorem Est.turn (h : Est T w g x lo hi any S V) {w' : World} {bs : List Nat} (ht : Turn bs w w') (hn : g ∉ bs) : Est T w' g x lo hi any S V := ⟨h.blk.turn ht hn, h.good⟩
theorem Est.keep (h : Est T w g x lo hi any S V) {w' : World} (hb : Below w.heap.size w w') : Est T w' g x lo hi any S V := ⟨h.blk.keep hb, h.good⟩
end
end Go.Proofs.Ytkgfogepbclhkaa
