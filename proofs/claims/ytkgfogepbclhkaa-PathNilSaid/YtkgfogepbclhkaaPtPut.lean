/-
  A path behind a store into its own block, or behind a call on its estimator or its window (program's and reference's alike).
-/
import Derived.Test.YtkgfogepbclhkaaPtSt
namespace Go.Proofs.Ytkgfogepbclhkaa
open Go.RowKit
set_option linter.unusedVariables false

section
variable {C : Nat → Nat → PS → List Value} {T TR TW : TypeId} {w w' : World} {g gr gw : Nat} {p p' : PS} {c c' : Nat}
theorem Pa.put (h : Pa C T TR TW w g gr gw p c) (ht : Turn [g] w w') (hA : Arr w' g T (C gr gw p')) (hg : PGood p' c')
    (e1 : estC p'.x p'.lo p'.hi p'.any p'.S p'.V = estC p.x p.lo p.hi p.any p.S p.V) (e2 : wnC p'.mtu p'.most p'.size p'.thr p'.part = wnC p.mtu p.most p.size p.thr p.part) : Pa C T TR TW w' g gr gw p' c' := by
  refine ⟨hA, ?_, ?_, hg, h.n1, h.n2, h.n3⟩
  · rw [e1]; exact h.est.turn ht (by have := h.n1; simp; omega)
  · rw [e2]; exact h.win.turn ht (by have := h.n2; simp; omega)
theorem Pa.putE (h : Pa C T TR TW w g gr gw p c) (ht : Turn [gr] w w') (hE : Est TR w' gr p'.x p'.lo p'.hi p'.any p'.S p'.V) (hg : PGood p' c')
    (e0 : C gr gw p' = C gr gw p) (e2 : wnC p'.mtu p'.most p'.size p'.thr p'.part = wnC p.mtu p.most p.size p.thr p.part) : Pa C T TR TW w' g gr gw p' c' := by
  refine ⟨?_, hE.blk, ?_, hg, h.n1, h.n2, h.n3⟩
  · rw [e0]; exact h.blk.turn ht (by have := h.n1; simp; omega)
  · rw [e2]; exact h.win.turn ht (by have := h.n3; simp; omega)
theorem Pa.putW (h : Pa C T TR TW w g gr gw p c) {b : Nat} (ht : Turn [gw] w w') (hW : Wn TW w' gw p'.mtu p'.most p'.size p'.thr p'.part b) (hg : PGood p' c')
    (e0 : C gr gw p' = C gr gw p) (e1 : estC p'.x p'.lo p'.hi p'.any p'.S p'.V = estC p.x p.lo p.hi p.any p.S p.V) : Pa C T TR TW w' g gr gw p' c' := by
  refine ⟨?_, ?_, hW.blk, hg, h.n1, h.n2, h.n3⟩
  · rw [e0]; exact h.blk.turn ht (by have := h.n2; simp; omega)
  · rw [e1]; exact h.est.turn ht (by have := h.n3; simp; omega)
end
end Go.Proofs.Ytkgfogepbclhkaa
