/-
  The anchor of the window statements: works() is true, and turns nothing that was there.
-/
import Derived.Test.YtnjiamngmlobeaaWn3
namespace Go.Proofs.Ytnjiamngmlobeaa
open Go.RowKit
set_option linter.unusedVariables false

theorem wacked_at (w : World) (g : Nat) (mtu most size thr part : Int) (c : Nat) (n : Int) (full : Bool) (hc : c ≤ 1073741824) (h : Wn 45 w g mtu most size thr part c) (s' p' : Int)
    (hs : akS mtu most size thr part n full = s') (hp : akP most size thr part n full = p') :
    Calls Try.prog 19 #[.pointer (some ⟨g, 0, none⟩), .int .i64 n, .bool full] w fun e w' => e = .returned (.tuple #[]) ∧ Wn 45 w' g mtu most s' thr p' (c + 1) ∧ Turn [g] w w' := by
  have := wacked_any w g mtu most size thr part c n full hc h
  rw [hs, hp] at this
  exact this

set_option maxHeartbeats 1600000 in
theorem works_any (w : World) : Calls Try.prog 9 #[] w fun e w' => e = .returned (.bool true) ∧ Turn [] w w' := by
  obtain ⟨g, hg⟩ : ∃ g, g = w.heap.size := ⟨_, rfl⟩
  have hn := wnew_yes w 128 1000 0 (by decide)
  rw [← hg] at hn
  have HGG := Lib.hid hg
  clear hg
  have hf : ∀ w' (h : Wn 45 w' g 128 1000 484 1000 0 3), Calls Try.prog 20 #[.pointer (some ⟨g, 0, none⟩)] w' fun e w2 => e = .returned (.tuple #[]) ∧ Wn 45 w2 g 128 1000 484 512 0 4 ∧ Turn [g] w' w2 := fun w' h => wfast_any w' _ _ _ _ _ _ _ h 4
  have ht : ∀ w' (h : Wn 45 w' g 128 1000 484 512 0 4), Calls Try.prog 18 #[.pointer (some ⟨g, 0, none⟩)] w' fun e w2 => e = .returned (.tuple #[]) ∧ Wn 45 w2 g 128 1000 128 512 0 5 ∧ Turn [g] w' w2 := fun w' h => wtimeout_any w' _ _ _ _ _ _ _ h 5
  have HF := Lib.hid (And.intro hf ht)
  clear hf ht
  go_enter Try.func9, Try.ntmps9
  go_wp2_with fail
  refine hn.mono ?_
  rintro e w1 ⟨rfl, hs1, ht1, _⟩
  have HT1 := Lib.hid ht1
  clear ht1 hn
  go_wp2_with fail
  refine (wsize_any w1 g _ _ _ _ _ _ hs1).mono ?_
  rintro e w' ⟨rfl, rfl⟩
  go_wp2_with fail
  refine (wthr_any w1 g _ _ _ _ _ _ hs1).mono ?_
  rintro e w' ⟨rfl, rfl⟩
  go_wp2_with fail
  refine (wacked_at w1 g _ _ _ _ _ _ 100 true (by decide) hs1 356 0 (by decide) (by decide)).mono ?_
  rintro e w2 ⟨rfl, hs2, ht2⟩
  have HT2 := Lib.hid (HT1.out.over ht2 (by have := HGG.out; intro j hj; simp at hj; omega))
  clear ht2 hs1
  go_wp2_with fail
  refine (wacked_at w2 g _ _ _ _ _ _ 500 true (by decide) hs2 484 0 (by decide) (by decide)).mono ?_
  rintro e w3 ⟨rfl, hs3, ht3⟩
  have HT3 := Lib.hid (HT2.out.over ht3 (by have := HGG.out; intro j hj; simp at hj; omega))
  clear ht3 hs2
  go_wp2_with fail
  refine (wacked_at w3 g _ _ _ _ _ _ 9 false (by decide) hs3 484 0 (by decide) (by decide)).mono ?_
  rintro e w4 ⟨rfl, hs4, ht4⟩
  have HT4 := Lib.hid (HT3.out.over ht4 (by have := HGG.out; intro j hj; simp at hj; omega))
  clear ht4 hs3
  go_wp2_with fail
  refine (wsize_any w4 g _ _ _ _ _ _ hs4).mono ?_
  rintro e w' ⟨rfl, rfl⟩
  go_wp2_with fail
  refine (HF.out.1 w4 hs4).mono ?_
  rintro e w5 ⟨rfl, hs5, ht5⟩
  have HT5 := Lib.hid (HT4.out.over ht5 (by have := HGG.out; intro j hj; simp at hj; omega))
  clear ht5 hs4
  go_wp2_with fail
  refine (wsize_any w5 g _ _ _ _ _ _ hs5).mono ?_
  rintro e w' ⟨rfl, rfl⟩
  go_wp2_with fail
  refine (HF.out.2 w5 hs5).mono ?_
  rintro e w6 ⟨rfl, hs6, ht6⟩
  have HT6 := Lib.hid (HT5.out.over ht6 (by have := HGG.out; intro j hj; simp at hj; omega))
  clear ht6 hs5
  go_wp2_with fail
  refine (wsize_any w6 g _ _ _ _ _ _ hs6).mono ?_
  rintro e w' ⟨rfl, rfl⟩
  go_wp2_with fail
  refine (wthr_any w6 g _ _ _ _ _ _ hs6).mono ?_
  rintro e w' ⟨rfl, rfl⟩
  go_wp2
  go_ret
  exact ⟨rfl, HT6.out⟩
end Go.Proofs.Ytnjiamngmlobeaa
