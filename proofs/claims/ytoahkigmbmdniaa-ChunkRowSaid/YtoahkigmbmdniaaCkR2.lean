/-
  The contract of package chunk's Read.
-/
import Derived.Test.YtoahkigmbmdniaaCkR1
import Derived.Test.YtoahkigmbmdniaaOct5
import Derived.Test.YtoahkigmbmdniaaGoodW
namespace Go.Proofs.Ytoahkigmbmdniaa
open Go.RowKit
set_option linter.unusedVariables false

/-- What Read answers where there is no chunk. -/
def noChunk : Value := .tuple #[.agg #[.int .u8 0, .int .u8 0, .slice none 0 0], .int .i64 0, .int .i64 7]

theorem box3 {w : World} {g : Nat} {T : TypeId} {a0 a1 a2 : Value} (h : Arr w g T [a0, a1, a2]) (b0 b1 b2 : Value) :
    Arr (((w.setCell ⟨g, 0, none⟩ b0).setCell ⟨g, 1, none⟩ b1).setCell ⟨g, 2, none⟩ b2) g T [b0, b1, b2] := ((h.set 0 b0).set 1 b1).set 2 b2
theorem below3 {B : Nat} {a w : World} (h : Below B a w) {g : Nat} (hg : B ≤ g) (b0 b1 b2 : Value) :
    Below B a (((w.setCell ⟨g, 0, none⟩ b0).setCell ⟨g, 1, none⟩ b1).setCell ⟨g, 2, none⟩ b2) := ((h.setCell hg _).setCell hg _).setCell hg _

set_option maxHeartbeats 800000 in
theorem read_no1 (a : Option Addr) (n c : Nat) (w : World) (hn : n < 4) :
    Calls Try.prog 18 #[.slice a n c] w fun e w' => e = .returned noChunk ∧ Below w.heap.size w w' := by
  obtain ⟨wA, hwA⟩ : ∃ wA, w.alloc (.cells #[.slice a n c] 22) = wA := ⟨_, rfl⟩
  have hbA : Below w.heap.size w wA := by rw [← hwA]; exact (Below.refl _ _).alloc (Nat.le_refl _) _
  have hsA : wA.heap.size = w.heap.size + 1 := by rw [← hwA]; simp
  have haA : Arr wA w.heap.size 22 [.slice a n c] := by rw [← hwA]; exact arr_new _ _ _
  obtain ⟨wB, hwB⟩ : ∃ wB, wA.alloc (.cells #[.int .u8 0, .int .u8 0, .slice none 0 0] 24) = wB := ⟨_, rfl⟩
  have hbB : Below wA.heap.size wA wB := by rw [← hwB]; exact (Below.refl _ _).alloc (Nat.le_refl _) _
  have hsB : wB.heap.size = wA.heap.size + 1 := by rw [← hwB]; simp
  have hcB : Arr wB (w.heap.size + 1) 24 [.int .u8 0, .int .u8 0, .slice none 0 0] := by rw [← hwB, ← hsA]; exact arr_new _ _ _
  have caB := (haA.keep hbB).cell (i := 0) rfl
  have hget := get_no a n c 2 2 wB (by omega) (by omega) (by unfold sizB hasB; simp; omega)
  have HG := Lib.hid hget
  clear haA hget hn
  go_enter Try.func18, Try.ntmps18
  go_wp2_with fail
  refine HG.out.mono ?_
  rintro e w1 ⟨rfl, rfl⟩
  have f0 := hcB.free 0
  have f1 := hcB.free 1
  have f2 := hcB.free 2
  have c0 := hcB.cell (i := 0) rfl
  have c1 := hcB.cell (i := 1) rfl
  have c2 := hcB.cell (i := 2) rfl
  have hend := box3 hcB (.int .u8 0) (.int .u8 0) (.slice none 0 0)
  have hbl := below3 (hbA.trans (hbB.mono hbA.size)) (by omega) (.int .u8 0) (.int .u8 0) (.slice none 0 0) (g := w.heap.size + 1)
  have HE := Lib.hid (And.intro hend hbl)
  clear hend hbl hbA hbB hcB hsB hsA caB HG
  go_wp2_with fail
  have d0 := HE.out.1.cell (i := 0) rfl
  have d1 := HE.out.1.cell (i := 1) rfl
  have d2 := HE.out.1.cell (i := 2) rfl
  have hbl := HE.out.2
  clear HE c0 c1 c2 f0 f1 f2 hwA hwB
  generalize ((wB.setCell _ _).setCell _ _).setCell _ _ = W at *
  exact bodyPost_ret (by simp [results, Try.results18, go_sem, d0, d1, d2]; rfl) rfl ⟨rfl, hbl⟩
end Go.Proofs.Ytoahkigmbmdniaa
