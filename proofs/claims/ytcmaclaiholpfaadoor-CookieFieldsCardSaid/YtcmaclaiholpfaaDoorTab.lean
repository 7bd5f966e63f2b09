/-
  The two tables of literals that the rows list: what their condition gives a walk.
-/
import Derived.Test.YtcmaclaiholpfaaDoorRows
import Derived.Test.YtcmaclaiholpfaaDoorMgA
import Derived.Test.YtcmaclaiholpfaaDoorShaMath
import Derived.Lib.LaidTab
import Derived.LaidMore
import Derived.MakeChecks
import Derived.Stop.LaidErr
namespace Go.Proofs.YtcmaclaiholpfaaDoor
open Go.RowKit
set_option linter.unusedVariables false
set_option maxRecDepth 100000

/-- The tables' blocks. -/
def tabs : List Nat := [0, 1]
/-- The tables lie there. -/
def Tab (w : World) : Prop :=
  (∀ i x, Ks[i]? = some x → w.cell? ⟨0, i, none⟩ = some (.int .u32 ((x : Nat) : Int))) ∧ ∀ i x, H0s[i]? = some x → w.cell? ⟨1, i, none⟩ = some (.int .u32 ((x : Nat) : Int))
theorem gK : Tryd.prog.globalNamed "fairlead/sha.constants" = some 0 := by kernel_rfl
theorem gKty : (Tryd.prog.globals[0]?).map (·.type) = some 80 := by kernel_rfl
theorem gH : Tryd.prog.globalNamed "fairlead/sha.initial" = some 1 := by kernel_rfl
theorem gHty : (Tryd.prog.globals[1]?).map (·.type) = some 75 := by kernel_rfl
theorem tabK : (Rows.laid_fairlead_sha_constants : DataW Unit) = Lib.tabData .u32 (Ks.map fun x => ((x : Nat) : Int)) := by rfl
theorem tabH : (Rows.laid_fairlead_sha_initial : DataW Unit) = Lib.tabData .u32 (H0s.map fun x => ((x : Nat) : Int)) := by rfl
theorem tab_of_laid {W : World} (h : laidMetH Tryd.prog [("fairlead/sha.initial", Rows.laid_fairlead_sha_initial), ("fairlead/sha.constants", Rows.laid_fairlead_sha_constants)] W) : Tab W := by
  rw [MakeChecks.laidMetH_plain _ _ _ (by kernel_rfl), tabH, tabK] at h
  have hH := Lib.tabIs_of_head (P := Tryd.prog) (t := 75) (e := 23) (n := 8) gH gHty (by kernel_rfl) (by kernel_rfl) (by kernel_rfl) (by kernel_rfl) h
  have hK := Lib.tabIs_of_head (P := Tryd.prog) (t := 80) (e := 23) (n := 64) gK gKty (by kernel_rfl) (by kernel_rfl) (by kernel_rfl) (by kernel_rfl) h.tail
  refine ⟨fun i x hx => ?_, fun i x hx => ?_⟩
  · have hl : i < Ks.length := (List.getElem?_eq_some_iff.1 hx).1
    rw [hK.cell gK i (by simpa using hl)]
    simp [List.getD, hx]
  · have hl : i < H0s.length := (List.getElem?_eq_some_iff.1 hx).1
    rw [hH.cell gH i (by simpa using hl)]
    simp [List.getD, hx]
theorem Tab.lt {w : World} (h : Tab w) : ∀ g ∈ tabs, g < w.heap.size := by
  intro g hg
  simp only [tabs, List.mem_cons, List.not_mem_nil, or_false] at hg
  rcases hg with rfl | rfl
  · exact World.block_lt_of_cell? w _ (h.1 0 _ rfl)
  · exact World.block_lt_of_cell? w _ (h.2 0 _ rfl)
theorem Tab.below {w w' : World} (h : Tab w) {B : Nat} (hb : Below B w w') (hB : ∀ g ∈ tabs, g < B) : Tab w' :=
  ⟨fun i x hx => by rw [hb.cell (hB _ (by simp [tabs]))]; exact h.1 i x hx, fun i x hx => by rw [hb.cell (hB _ (by simp [tabs]))]; exact h.2 i x hx⟩
theorem Tab.drewN {w : World} (h : Tab w) (n : Nat) : Tab (w.drewN n) := h
end Go.Proofs.YtcmaclaiholpfaaDoor
