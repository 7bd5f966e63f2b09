/-
  The anchor of the octet statements: works() is true, and turns nothing that was there.
-/
import Derived.Test.YtjpeceplhdmaoaaOct5
namespace Go.Proofs.Ytjpeceplhdmaoaa
open Go.RowKit
set_option linter.unusedVariables false

theorem round_5 (w : World) : Calls Try.prog 24 #[.int .i64 5] w fun e w' => e = .returned (.int .i64 8) ∧ w = w' := round_nat 5 w (by omega)
theorem pad_3 (a : Option Addr) (cap : Nat) (zs : List Int) (w : World) (hr : Reads w a 3 zs) :
    Calls Try.prog 22 #[.slice a 3 cap] w fun e w' => e = .returned (.slice (some ⟨w.heap.size, 0, none⟩) 4 4) ∧ Below w.heap.size w w' :=
  (pad_any a 3 cap zs w hr (by omega)).mono fun e w' h => ⟨h.1, h.2.1⟩

set_option maxHeartbeats 800000 in
theorem works_any (w : World) : Calls Try.prog 11 #[] w fun e w' => e = .returned (.bool true) ∧ Below w.heap.size w w' := by
  go_enter Try.func11, Try.ntmps11
  go_wp2_with fail
  refine (put_yes _ 1 _ 2 258 [255] _ ⟨rfl, .inr ⟨_, _, rfl, by simp, ?_⟩⟩ (by omega) (by omega) (by omega) (by decide)).mono ?_
  · intro i hi
    obtain rfl : i = 0 := by omega
    simp
  rintro e w1 ⟨rfl, hb1, hk1⟩
  have hk1 : Blk w1 (w.heap.size + 1) [255, 1, 2] := by simpa [enc] using hk1
  have hb1' : Below (w.heap.size + 1) (w.alloc (.cells #[.int .u8 255] 5)) w1 := by simpa using hb1
  have hr1 := hk1.readsAll 3 rfl
  have hbelow : Below w.heap.size w w1 := ((Below.refl _ _).alloc (Nat.le_refl _) _).trans (hb1'.mono (by omega))
  have HB := Lib.hid hbelow
  clear hbelow hb1 hb1'
  go_wp2_with fail
  refine (get_yes _ 3 _ 1 2 [255, 1, 2] w1 hr1 (by intro z hz; simp at hz; omega) (by omega) (by decide) (by omega)).mono ?_
  rintro e w2 ⟨rfl, rfl⟩
  have en : num (((([255, 1, 2] : List Int)).drop 1).take 2) = 258 := by decide
  rw [en]
  clear en
  go_wp2_with fail
  refine (cut_yes _ 3 3 1 1 [255, 1, 2] w1 hr1 (by omega) (by omega) (by omega)).mono ?_
  rintro e w2 ⟨rfl, hb2, hk2⟩
  have hr2 := hr1.below hb2
  have hc2 : w2.cell? ⟨w1.heap.size, 0, none⟩ = some (.int .u8 1) := hk2.cell (i := 0) (by simp)
  have HB2 := Lib.hid hb2
  clear hb2 hk2
  go_wp2_with (first
    | (go_at_call 24; refine (round_5 _).mono ?_; rintro e w' ⟨rfl, rfl⟩)
    | (go_at_call 22; refine (pad_3 _ _ [255, 1, 2] w2 hr2).mono ?_; rintro e w3 ⟨rfl, hb3⟩))
  go_ret
  exact ⟨rfl, (HB.out.trans (HB2.out.mono HB.out.size)).trans (hb3.mono (Nat.le_trans HB.out.size HB2.out.size))⟩
end Go.Proofs.Ytjpeceplhdmaoaa
