/-
  Contracts of the reference package 00: Kept, where it is true.
-/
import Derived.Test.YtcmaclaiholpfaaDoorMgA
namespace Go.Proofs.YtcmaclaiholpfaaDoor
open Go.RowKit
set_option linter.unusedVariables false

theorem roomy_in {w : World} {g n : Nat} {zs : List Int} (h : Blk w g (zs ++ List.replicate 16 90)) (hl : zs.length = n) : Reads w (some ⟨g, 0, none⟩) n zs := by
  subst hl
  have := h.reads 0 zs.length (by simp)
  simpa using this
end Go.Proofs.YtcmaclaiholpfaaDoor
