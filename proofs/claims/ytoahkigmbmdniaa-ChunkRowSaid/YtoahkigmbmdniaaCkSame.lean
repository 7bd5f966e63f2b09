/-
  The reference of layer 8: Same, where it is true.
-/
import Derived.Test.YtoahkigmbmdniaaCkMath
import Derived.Test.YtoahkigmbmdniaaArr
import Derived.Test.YtoahkigmbmdniaaRef00
namespace Go.Proofs.Ytoahkigmbmdniaa
open Go.RowKit
set_option linter.unusedVariables false

set_option maxHeartbeats 800000 in
theorem same_yes (k f : Int) (a b : Option Addr) (n ca cb : Nat) (zs : List Int) (w : World) (ha : Reads w a n zs) (hb : Reads w b n zs) (hz : Byt zs) (hn : n ≤ 281474976710656) :
    Calls Try.prog 20 #[.agg #[.int .u8 k, .int .u8 f, .slice a n ca], .agg #[.int .u8 k, .int .u8 f, .slice b n cb]] w fun e w' => e = .returned (.bool true) ∧ Below w.heap.size w w' := by
  obtain ⟨w0, hw0⟩ : ∃ w0, w.alloc (.cells #[.int .u8 k, .int .u8 f, .slice a n ca] 24) = w0 := ⟨_, rfl⟩
  have hb0 : Below w.heap.size w w0 := by rw [← hw0]; exact (Below.refl _ _).alloc (Nat.le_refl _) _
  have hs0 : w0.heap.size = w.heap.size + 1 := by rw [← hw0]; simp
  have ha0 : Arr w0 w.heap.size 24 [.int .u8 k, .int .u8 f, .slice a n ca] := by rw [← hw0]; exact arr_new _ _ _
  obtain ⟨w1, hw1⟩ : ∃ w1, w0.alloc (.cells #[.int .u8 k, .int .u8 f, .slice b n cb] 24) = w1 := ⟨_, rfl⟩
  have hb1 : Below w0.heap.size w0 w1 := by rw [← hw1]; exact (Below.refl _ _).alloc (Nat.le_refl _) _
  have hs1 : w1.heap.size = w0.heap.size + 1 := by rw [← hw1]; simp
  have hk1 : Arr w1 w0.heap.size 24 [.int .u8 k, .int .u8 f, .slice b n cb] := by rw [← hw1]; exact arr_new _ _ _
  have ha1 := ha0.keep hb1
  have c0 := ha1.cell (i := 0) rfl
  have c1 := ha1.cell (i := 1) rfl
  have c2 := ha1.cell (i := 2) rfl
  have d0 := hk1.cell (i := 0) rfl
  have d1 := hk1.cell (i := 1) rfl
  have d2 := hk1.cell (i := 2) rfl
  have heq := eqBytes_yes a b n ca cb n zs zs w1 ((ha.below hb0).below hb1) ((hb.below hb0).below hb1) hz hn rfl
  have HE := Lib.hid heq
  have HB := Lib.hid (And.intro (hb0.trans (hb1.mono hb0.size)) (And.intro hs0 hs1))
  clear ha hb heq hb0 hb1 hs0 hs1 ha0 ha1 hk1
  go_enter Try.func20, Try.ntmps20
  go_wp2_with fail
  refine HE.out.mono ?_
  rintro e w2 ⟨rfl, hb2, _⟩
  have hB := Lib.hid (HB.out.1.trans (hb2.mono HB.out.1.size))
  clear hb2 HE
  go_wp2
  go_ret
  exact ⟨rfl, hB.out⟩
end Go.Proofs.Ytoahkigmbmdniaa
