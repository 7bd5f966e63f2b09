/-
  The anchor of the rto statements: works() is true, and turns nothing that was there.
-/
import Derived.Test.YtnngbckahkalhaaRt3
import Derived.Test.YtnngbckahkalhaaRtNew
namespace Go.Proofs.Ytnngbckahkalhaa
open Go.RowKit
set_option linter.unusedVariables false

theorem sample_at (w0 : World) (g : Nat) (x lo hi : Int) (any0 : Bool) (S0 V0 t0 : Int) (h : Est 44 w0 g x lo hi any0 S0 V0) (ht : 0 ≤ t0) (x' S' V' : Int)
    (hS : nS any0 S0 (min t0 1048576) = S') (hV : nV any0 S0 V0 (min t0 1048576) = V') (hX : nX S' V' lo hi = x') :
    Calls Try.prog 14 #[.pointer (some ⟨g, 0, none⟩), .int .i64 t0] w0 fun e w' => e = .returned (.int .i64 0) ∧
      Est 44 w' g x' lo hi true S' V' ∧ Turn [g] w0 w' := by
  have := sample_any w0 g x lo hi any0 S0 V0 t0 h ht
  rw [hS, hV, hX] at this
  exact this

set_option maxHeartbeats 1600000 in
theorem works_any (w : World) : Calls Try.prog 9 #[] w fun e w' => e = .returned (.bool true) ∧ Turn [] w w' := by
  have hb : ∀ w' (h : Est 44 w' w.heap.size 24 1 60 true 56 17), Calls Try.prog 12 #[.pointer (some ⟨w.heap.size, 0, none⟩)] w' fun e w2 => e = .returned (.tuple #[]) ∧ Est 44 w2 w.heap.size 48 1 60 true 56 17 ∧ Turn [w.heap.size] w' w2 := fun w' h => back_any w' _ _ _ _ _ _ _ h
  obtain ⟨g, hg⟩ : ∃ g, g = w.heap.size := ⟨_, rfl⟩
  have hn := new_yes w 3 1 60 (by decide)
  rw [← hg] at hn hb
  have HGG := Lib.hid hg
  have HB := Lib.hid hb
  clear hg hb
  go_enter Try.func9, Try.ntmps9
  go_wp2_with fail
  refine hn.mono ?_
  rintro e w1 ⟨rfl, hs1, ht1, _⟩
  have HT1 := Lib.hid ht1
  clear ht1 hn
  go_wp2_with fail
  refine (value_any w1 g _ _ _ _ _ _ hs1).mono ?_
  rintro e w' ⟨rfl, rfl⟩
  go_wp2_with fail
  refine (sample_at w1 g 3 1 60 _ _ _ 8 hs1 (by omega) 24 64 16 rfl rfl rfl).mono ?_
  rintro e w2 ⟨rfl, hs2, ht2⟩
  have HT2 := Lib.hid (HT1.out.over ht2 (by have := HGG.out; intro j hj; simp at hj; omega))
  clear ht2 hs1
  go_wp2_with fail
  refine (value_any w2 g _ _ _ _ _ _ hs2).mono ?_
  rintro e w' ⟨rfl, rfl⟩
  go_wp2_with fail
  refine (sample_at w2 g 24 1 60 _ _ _ 8 hs2 (by omega) 20 64 12 rfl rfl rfl).mono ?_
  rintro e w3 ⟨rfl, hs3, ht3⟩
  have HT3 := Lib.hid (HT2.out.over ht3 (by have := HGG.out; intro j hj; simp at hj; omega))
  clear ht3 hs2
  go_wp2_with fail
  refine (value_any w3 g _ _ _ _ _ _ hs3).mono ?_
  rintro e w' ⟨rfl, rfl⟩
  go_wp2_with fail
  refine (sample_at w3 g 20 1 60 _ _ _ 0 hs3 (by omega) 24 56 17 rfl rfl rfl).mono ?_
  rintro e w4 ⟨rfl, hs4, ht4⟩
  have HT4 := Lib.hid (HT3.out.over ht4 (by have := HGG.out; intro j hj; simp at hj; omega))
  clear ht4 hs3
  go_wp2_with fail
  refine (value_any w4 g _ _ _ _ _ _ hs4).mono ?_
  rintro e w' ⟨rfl, rfl⟩
  go_wp2_with fail
  refine (HB.out w4 hs4).mono ?_
  rintro e w5 ⟨rfl, hs5, ht5⟩
  have HT5 := Lib.hid (HT4.out.over ht5 (by have := HGG.out; intro j hj; simp at hj; omega))
  clear ht5 hs4
  go_wp2_with fail
  refine (smooth_yes w5 g _ _ _ _ _ hs5).mono ?_
  rintro e w' ⟨rfl, rfl⟩
  go_wp2_with fail
  refine (value_any w5 g _ _ _ _ _ _ hs5).mono ?_
  rintro e w' ⟨rfl, rfl⟩
  go_wp2_with fail
  refine (sample_neg w5 g (-1) (by omega)).mono ?_
  rintro e w' ⟨rfl, rfl⟩
  go_wp2
  go_ret
  exact ⟨rfl, HT5.out⟩
end Go.Proofs.Ytnngbckahkalhaa
