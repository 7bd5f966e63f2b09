/-
  The walk of WindowNil.
-/
import Derived.Test.YtnjiamngmlobeaaWnDo
import Derived.Test.YtnjiamngmlobeaaFrame
namespace Go.Proofs.Ytnjiamngmlobeaa
open Go.RowKit
set_option linter.unusedVariables false

set_option maxHeartbeats 800000 in
theorem windowNil_walk (kind n : Int) (full : Bool) (w : World) (wk : (Lit.int .i64 kind).wf = true) (wn : (Lit.int .i64 n).wf = true) :
    Calls Try.prog 8 #[.agg #[.int .i64 kind, .int .i64 n, .bool full]] w fun e w' => e = .returned (.bool true) ∧ Below w.heap.size w w' := by
  have hbx := opBox w kind n full
  have c0 := hbx.cell (i := 0) rfl
  have c1 := hbx.cell (i := 1) rfl
  have c2 := hbx.cell (i := 2) rfl
  have ht : Turn [] w (w.alloc (.cells #[.int .i64 kind, .int .i64 n, .bool full] 33)) := (Turn.refl _ _).alloc _
  have HT := Lib.hid ht
  clear wk wn hbx ht
  go_enter Try.func8, Try.ntmps8
  go_wp2_with fail
  refine (wdoes_nil _ kind n full).mono ?_
  rintro e w1 ⟨rfl, ht1⟩
  have HT1 := Lib.hid (HT.out.trans ht1)
  clear ht1 c0 c1 c2
  go_wp2_with fail
  refine (wsize_nil w1).mono ?_
  rintro e w' ⟨rfl, rfl⟩
  go_wp2_with fail
  refine (wthr_nil w1).mono ?_
  rintro e w' ⟨rfl, rfl⟩
  go_wp2_with fail
  refine (works_any w1).mono ?_
  rintro e w2 ⟨rfl, ht2⟩
  have HT2 := Lib.hid (HT1.out.trans ht2)
  clear ht2
  go_wp2
  go_ret
  exact ⟨rfl, HT2.out.below (Nat.le_refl _) (by simp)⟩
end Go.Proofs.Ytnjiamngmlobeaa
