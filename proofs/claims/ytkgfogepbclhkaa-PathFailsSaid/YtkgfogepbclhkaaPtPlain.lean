/-
  The statements' plain config.
-/
import Derived.Test.YtkgfogepbclhkaaPt0
import Derived.Test.YtkgfogepbclhkaaPtCf
namespace Go.Proofs.Ytkgfogepbclhkaa
open Go.RowKit
set_option linter.unusedVariables false

theorem plain_any (w : World) (r : Int) (h0 : 0 ≤ r) (h1 : r ≤ 255) :
    Calls Try.prog 15 #[.int .u8 r] w fun e w' => e = .returned (.agg #[.int .i64 0, .int .i64 128, .int .i64 0, .int .i64 0, .int .i64 0, .int .i64 1000, .int .i64 3, .int .i64 1, .int .i64 60, .int .i64 0, .int .i64 0, .int .i64 10, .int .i64 (r % 21), .int .i64 0]) ∧ Turn [] w w' := by
  have hm : r.tmod 21 = r % 21 := Int.tmod_eq_emod_of_nonneg h0
  have hk : 0 ≤ r % 21 ∧ r % 21 < 21 := by omega
  obtain ⟨k, hkk⟩ : ∃ k, k = r % 21 := ⟨_, rfl⟩
  rw [← hkk] at hm hk ⊢
  clear hkk
  have hbx := cfBox w 0 128 0 0 0 1000 3 1 60 0 0 10 k 0
  have hT : Turn [] w (w.alloc (.cells #[.int .i64 0, .int .i64 128, .int .i64 0, .int .i64 0, .int .i64 0, .int .i64 1000, .int .i64 3, .int .i64 1, .int .i64 60, .int .i64 0, .int .i64 0, .int .i64 10, .int .i64 k, .int .i64 0] 23)) := (Turn.refl _ _).alloc _
  have HB := Lib.hid (And.intro hbx hT)
  clear hbx hT
  go_enter Try.func15, Try.ntmps15
  go_wp2
  refine bodyPost_ret (v := .agg #[.int .i64 0, .int .i64 128, .int .i64 0, .int .i64 0, .int .i64 0, .int .i64 1000, .int .i64 3, .int .i64 1, .int .i64 60, .int .i64 0, .int .i64 0, .int .i64 10, .int .i64 k, .int .i64 0]) ?_ rfl ⟨rfl, HB.out.2⟩
  have hres : Try.f15.results = #[.cell 2 23] := by kernel_rfl
  simp only [results, hres]
  go_simp
end Go.Proofs.Ytkgfogepbclhkaa
