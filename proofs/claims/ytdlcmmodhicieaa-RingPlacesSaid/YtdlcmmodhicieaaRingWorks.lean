/-
  The anchor of the ring statements: works() is true, and turns nothing that was there.
-/
import Derived.Test.YtdlcmmodhicieaaRingInt
namespace Go.Proofs.Ytdlcmmodhicieaa
open Go.RowKit
set_option linter.unusedVariables false

set_option maxHeartbeats 800000 in
theorem works_any (w : World) : Calls Try.prog 10 #[] w fun e w' => e = .returned (.bool true) ∧ Below w.heap.size w w' := by
  go_enter Try.func10, Try.ntmps10
  go_wp2_with fail
  refine (new_my_int w.heap.size w (Nat.le_refl _) 2 (by omega) (by omega)).mono ?_
  rintro e w1 ⟨rb, cb, rfl, hr1, hb1⟩
  have HB1 := Lib.hid hb1
  clear hb1
  go_wp2_with fail
  refine (push_my_int _ w1 rb cb 2 0 [] hr1 7 (by omega)).mono ?_
  rintro e w2 ⟨rfl, hr2, hb2⟩
  clear hr1
  have HB2 := Lib.hid hb2
  clear hb2
  go_wp2_with fail
  refine (push_my_int _ w2 rb cb 2 1 _ hr2 8 (by omega)).mono ?_
  rintro e w3 ⟨rfl, hr3, hb3⟩
  clear hr2
  have HB3 := Lib.hid hb3
  clear hb3
  go_wp2_with fail
  refine (push_myno_int _ w3 rb cb 2 2 _ hr3 9 (by omega)).mono ?_
  rintro e w' ⟨rfl, rfl⟩
  go_wp2_with fail
  refine (pop_my_int _ w3 rb cb 2 1 (.int .i64 7) [.int .i64 8] hr3).mono ?_
  rintro e w4 ⟨rfl, hr4, hb4⟩
  clear hr3
  have HB4 := Lib.hid hb4
  clear hb4
  go_wp2_with fail
  refine (at_my_int _ w4 rb cb 2 1 _ hr4 (.int .i64 8) 0 rfl (by omega)).mono ?_
  rintro e w' ⟨rfl, rfl⟩
  go_wp2_with fail
  refine (len_my_int _ w4 rb cb 2 1 _ hr4).mono ?_
  rintro e w' ⟨rfl, rfl⟩
  go_wp2_with fail
  refine (room_my_int _ w4 rb cb 2 1 _ hr4).mono ?_
  rintro e w5 ⟨rfl, hr5, hb5⟩
  clear hr4 hr5
  have HB5 := Lib.hid hb5
  clear hb5
  go_wp2
  go_ret
  exact ⟨rfl, HB1.out.trans (HB2.out.trans (HB3.out.trans (HB4.out.trans HB5.out)))⟩
end Go.Proofs.Ytdlcmmodhicieaa
