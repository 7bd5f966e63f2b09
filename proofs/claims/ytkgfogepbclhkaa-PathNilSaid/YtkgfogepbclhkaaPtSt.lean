/-
  Package path: what a path is in memory: the program's (PP) and the reference's (RP).
-/
import Derived.Test.YtkgfogepbclhkaaRtEst
import Derived.Test.YtkgfogepbclhkaaWnSt
import Derived.Test.YtkgfogepbclhkaaPtMath
namespace Go.Proofs.Ytkgfogepbclhkaa
open Go.RowKit
set_option linter.unusedVariables false

def ptr (g : Nat) : Value := .pointer (some ⟨g, 0, none⟩)
/-- The program's cells, and the reference's. -/
def paC (gr gw : Nat) (p : PS) : List Value := [.pointer (some ⟨gr, 0, none⟩), .pointer (some ⟨gw, 0, none⟩), .int .i64 p.may, .int .i64 p.bad, .int .i64 p.every, .int .i64 p.due, .bool p.opn]
def raC (gr gw : Nat) (p : PS) : List Value := [.pointer (some ⟨gr, 0, none⟩), .pointer (some ⟨gw, 0, none⟩), .int .i64 p.bad, .int .i64 p.may, .int .i64 p.due, .int .i64 p.every, .bool p.opn]

/-- Block g holds a path, blocks gr and gw its estimator and its window. -/
structure Pa (C : Nat → Nat → PS → List Value) (T TR TW : TypeId) (w : World) (g gr gw : Nat) (p : PS) (c : Nat) : Prop where
  blk : Arr w g T (C gr gw p)
  est : Arr w gr TR (estC p.x p.lo p.hi p.any p.S p.V)
  win : Arr w gw TW (wnC p.mtu p.most p.size p.thr p.part)
  good : PGood p c
  n1 : g ≠ gr
  n2 : g ≠ gw
  n3 : gr ≠ gw
abbrev PP := Pa paC 59 71 73
abbrev RP := Pa raC 67 75 77
section
variable {C : Nat → Nat → PS → List Value} {T TR TW : TypeId} {w : World} {g gr gw : Nat} {p : PS} {c : Nat}
theorem Pa.turn (h : Pa C T TR TW w g gr gw p c) {w' : World} {bs : List Nat} (ht : Turn bs w w') (h1 : g ∉ bs) (h2 : gr ∉ bs) (h3 : gw ∉ bs) : Pa C T TR TW w' g gr gw p c :=
  { h with blk := h.blk.turn ht h1, est := h.est.turn ht h2, win := h.win.turn ht h3 }
theorem Pa.rto (h : Pa C T TR TW w g gr gw p c) : Est TR w gr p.x p.lo p.hi p.any p.S p.V := ⟨h.est, h.good.est⟩
theorem Pa.wnd (h : Pa C T TR TW w g gr gw p c) : Wn TW w gw p.mtu p.most p.size p.thr p.part c := ⟨h.win, h.good.win⟩
theorem Pa.lt (h : Pa C T TR TW w g gr gw p c) : g < w.heap.size ∧ gr < w.heap.size ∧ gw < w.heap.size := ⟨h.blk.lt, h.est.lt, h.win.lt⟩
theorem Pa.more (h : Pa C T TR TW w g gr gw p c) {c' : Nat} (hc : c ≤ c') : Pa C T TR TW w g gr gw p c' := { h with good := h.good.more hc }
theorem Pa.drawn (h : Pa C T TR TW w g gr gw p c) (m : Nat) : Pa C T TR TW (w.drewN m) g gr gw p c := h.turn ((Turn.refl [] w).drewN m) (by simp) (by simp) (by simp)
end
end Go.Proofs.Ytkgfogepbclhkaa
