/-
  The walk of PathNil.
-/
import Derived.Test.YtkgfogepbclhkaaPtAlike
import Derived.Test.YtkgfogepbclhkaaPtWk
import Derived.Test.YtkgfogepbclhkaaFrame
namespace Go.Proofs.Ytkgfogepbclhkaa
open Go.RowKit
set_option linter.unusedVariables false

set_option maxHeartbeats 800000 in
theorem pathNil_walk (kind n : Int) (full : Bool) (t u : Int) (w : World) (wk : (Lit.int .i64 kind).wf = true) (wn : (Lit.int .i64 n).wf = true) (wt : (Lit.int .i64 t).wf = true) (wu : (Lit.int .i64 u).wf = true) :
    Calls Try.prog 8 #[.agg #[.int .i64 kind, .int .i64 n, .bool full, .int .i64 t, .int .i64 u]] w fun e w' => e = .returned (.bool true) ∧ Below w.heap.size w w' := by
  have hbx := opBox w kind n full t u
  have c0 := hbx.cell (i := 0) rfl
  have c1 := hbx.cell (i := 1) rfl
  have c2 := hbx.cell (i := 2) rfl
  have c3 := hbx.cell (i := 3) rfl
  have c4 := hbx.cell (i := 4) rfl
  have ht : Turn [] w (w.alloc (.cells #[.int .i64 kind, .int .i64 n, .bool full, .int .i64 t, .int .i64 u] 36)) := (Turn.refl _ _).alloc _
  have HT := Lib.hid ht
  clear wk wn wt wu hbx ht
  go_enter Try.func8, Try.ntmps8
  go_wp2_with fail
  refine (pdoes_nil _ kind n full t u).mono ?_
  rintro e w1 ⟨rfl, ht1⟩
  have HT1 := Lib.hid (HT.out.trans ht1)
  clear ht1 c0 c1 c2 c3 c4
  go_wp2_with fail
  refine (palike_nil w1).mono ?_
  rintro e w' ⟨rfl, m, rfl⟩
  go_wp2_with fail
  refine (pactive_nil (w1.drewN m)).mono ?_
  rintro e w' ⟨rfl, m2, rfl⟩
  go_wp2_with fail
  refine (psize_nil _).mono ?_
  rintro e w' ⟨rfl, rfl⟩
  have HT2 := Lib.hid (show Turn [] w (w1.drewN (m + m2)) from HT1.out.drewN (m + m2))
  go_wp2_with fail
  refine (works_any (w1.drewN (m + m2))).mono ?_
  rintro e w2 ⟨rfl, ht2⟩
  have HT3 := Lib.hid (HT2.out.trans ht2)
  clear ht2
  go_wp2
  go_ret
  exact ⟨rfl, HT3.out.below (Nat.le_refl _) (by simp)⟩
end Go.Proofs.Ytkgfogepbclhkaa
