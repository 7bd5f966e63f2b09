/-
  The contract of package chunk's Write.
-/
import Derived.Test.YtoahkigmbmdniaaCkMath
import Derived.Test.YtoahkigmbmdniaaAppends
import Derived.Test.YtoahkigmbmdniaaArr
namespace Go.Proofs.Ytoahkigmbmdniaa
open Go.RowKit
set_option linter.unusedVariables false

set_option maxHeartbeats 800000 in
theorem write_no (k f : Int) (a : Option Addr) (n c : Nat) (w : World) (hn : 65531 < n) :
    Calls Try.prog 13 #[.agg #[.int .u8 k, .int .u8 f, .slice a n c]] w fun e w' => e = .returned (.slice none 0 0) ∧ Below w.heap.size w w' := by
  have hg : (65531 : Int) < n := by omega
  go_enter Try.func13, Try.ntmps13
  go_wp2
  go_ret
  exact ⟨rfl, (Below.refl _ _).alloc (Nat.le_refl _) _⟩

set_option maxHeartbeats 1600000 in
theorem write_yes (k f : Int) (a : Option Addr) (n c : Nat) (zs : List Int) (w : World) (hr : Reads w a n zs) (hn : n ≤ 65531) :
    Calls Try.prog 13 #[.agg #[.int .u8 k, .int .u8 f, .slice a n c]] w fun e w' =>
      ∃ g, e = .returned (.slice (some ⟨g, 0, none⟩) (up4 (4 + n)) (up4 (4 + n))) ∧ w.heap.size ≤ g ∧ Blk w' g (encC k f zs) ∧ Below w.heap.size w w' := by
  have hl := hr.1
  have hg : ¬ (65531 : Int) < n := by omega
  have g0 : (0 : Int) ≤ 4 + (n : Int) := by omega
  obtain ⟨w0, hw0⟩ : ∃ w0, w.alloc (.cells #[.int .u8 k, .int .u8 f, .slice a n c] 24) = w0 := ⟨_, rfl⟩
  have hb0 : Below w.heap.size w w0 := by rw [← hw0]; exact (Below.refl _ _).alloc (Nat.le_refl _) _
  have hs0 : w0.heap.size = w.heap.size + 1 := by rw [← hw0]; simp
  have ha0 : Arr w0 w.heap.size 24 [.int .u8 k, .int .u8 f, .slice a n c] := by rw [← hw0]; exact arr_new _ _ _
  obtain ⟨w1, hw1⟩ : ∃ w1, w0.alloc (.cells #[.int .u8 k, .int .u8 f] 5) = w1 := ⟨_, rfl⟩
  have hb1 : Below w0.heap.size w0 w1 := by rw [← hw1]; exact (Below.refl _ _).alloc (Nat.le_refl _) _
  have hs1 : w1.heap.size = w0.heap.size + 1 := by rw [← hw1]; simp
  have hk1 : Blk w1 w0.heap.size [k, f] := by rw [← hw1]; exact heap_alloc_new _ _
  have c00 := ha0.cell (i := 0) rfl
  have c01 := ha0.cell (i := 1) rfl
  have c02 := ha0.cell (i := 2) rfl
  have c12 := (ha0.keep hb1).cell (i := 2) rfl
  have hput := put_yes (some ⟨w0.heap.size, 0, none⟩) 2 2 2 (4 + (n : Int)) [k, f] w1 (hk1.readsAll 2 rfl) (by omega) (by omega) (by omega) rfl
  have HP := Lib.hid hput
  have H0 := Lib.hid (And.intro (hb0.trans (hb1.mono (by omega))) (And.intro (hr.below hb0 |>.below hb1) (ha0.keep hb1)))
  have HS := Lib.hid (And.intro hs0 hs1)
  clear hb0 hb1 hk1 ha0 hput hr hs0 hs1
  go_enter Try.func13, Try.ntmps13
  go_wp2_with fail
  refine HP.out.mono ?_
  rintro e w2 ⟨rfl, hb2, hk2⟩
  have hb2w : Below w.heap.size w w2 := H0.out.1.trans (hb2.mono H0.out.1.size)
  have c22 := (H0.out.2.2.keep hb2).cell (i := 2) rfl
  have hr2 := H0.out.2.1.below hb2
  have hrow : Row8 w1.heap.size w2 (some ⟨w1.heap.size, 0, none⟩) 4 4 ([k, f] ++ enc (4 + (n : Int)) 2) := Row8.of_blk hk2 (Nat.le_refl _) (by simp) (by decide)
  obtain ⟨a3, c3, w3, happ, H3⟩ := hrow.appends (by have := hb2.size; omega) a n c zs hr2 (by omega)
  have hb3w : Below w.heap.size w w3 := hb2w.trans (H3.out.2.mono H0.out.1.size)
  have hpad := pad_any a3 (4 + n) c3 _ w3 H3.out.1.reads (by omega)
  have HPA := Lib.hid hpad
  have HB3 := Lib.hid hb3w
  clear hb2 hk2 hb2w hr2 hrow hpad H3 HP c00 c01 c02 c12 hw0 hw1
  go_wp2_with (at_builtin; refine wpList_append_run rfl _ _ _ rfl _ _ _ _ rfl rfl happ ?_)
  clear happ
  refine HPA.out.mono ?_
  rintro e w4 ⟨rfl, hb4, hk4⟩
  have HE := Lib.hid (And.intro HB3.out.size (And.intro hk4 (HB3.out.trans (hb4.mono HB3.out.size))))
  clear hb4 hk4 HPA HB3
  go_wp2
  go_ret
  refine ⟨_, rfl, HE.out.1, ?_, HE.out.2.2⟩
  have h := HE.out.2.1
  unfold encC
  rw [hl]
  exact h
end Go.Proofs.Ytoahkigmbmdniaa
