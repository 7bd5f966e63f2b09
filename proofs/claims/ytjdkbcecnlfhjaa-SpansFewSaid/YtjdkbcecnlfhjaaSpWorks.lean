/-
  The anchor of the spans statements: works() is true, and turns nothing that was there.
-/
import Derived.Test.YtjdkbcecnlfhjaaSpSame
namespace Go.Proofs.Ytjdkbcecnlfhjaa
open Go.RowKit
set_option linter.unusedVariables false

theorem add_at (w : World) (sb bm : Nat) (base x : Int) (f : Nat → Bool) (h : IsSet w sb bm base f) (hx : 0 ≤ x ∧ x ≤ 4294967295) (k : Nat) (hk : dist base x = k) (b : Bool) (hb : (near k && !f k) = b) :
    Calls Try.prog 12 #[.pointer (some ⟨sb, 0, none⟩), .int .u32 x] w fun e w' => e = .returned (.bool b) ∧ IsSet w' sb bm base (addF f k) ∧ Turn [sb, bm] w w' := by
  have := add_any w sb bm base x f h hx
  rw [hk, hb] at this
  exact this

def wF : Nat → Bool := addF (addF (addF none0 2) 2) 1
theorem wF_cnt : cnt wF = 2 := by decide +kernel
theorem wF_run : Run wF 2 := ⟨fun k h1 h2 => by
  rcases (show k = 1 ∨ k = 2 by omega) with rfl | rfl <;> rfl, rfl⟩
theorem wF_shf : shf 2 wF = none0 := by
  funext k
  have h1 : Sup (addF none0 2) := addF_sup Sup.none0 2
  have h2 : Sup (addF (addF none0 2) 2) := addF_sup h1 2
  unfold shf wF
  rw [addF_at _ h2, addF_at _ h1, addF_at _ Sup.none0]
  cases k with
  | zero => rfl
  | succ k =>
    have e1 : (1 == k + 1 + 2) = false := by simp
    have e2 : (2 == k + 1 + 2) = false := by simp
    rw [e1, e2]
    simp [none0]

theorem none0_lst : Lst none0 0 := ⟨.inl rfl, fun d h => by cases h⟩
theorem none0_gaps : IsGaps none0 1 [] := fun _ _ => rfl

set_option maxHeartbeats 1600000 in
theorem works_any (w : World) : Calls Try.prog 10 #[] w fun e w' => e = .returned (.bool true) ∧ Turn [] w w' := by
  go_enter Try.func10, Try.ntmps10
  go_wp2_with fail
  refine (new_any w 4294967295 (by omega)).mono ?_
  rintro e w1 ⟨rfl, hs1, ht1⟩
  generalize hsb : w.heap.size + 1 = sb at *
  generalize hbm : w.heap.size = bm at *
  have HSB := Lib.hid hsb
  have HBM := Lib.hid hbm
  have HT1 := Lib.hid ht1
  clear ht1 hsb hbm
  go_wp2_with fail
  refine (add_at w1 sb bm 4294967295 1 _ hs1 (by omega) 2 (by decide) true (by decide)).mono ?_
  rintro e w2 ⟨rfl, hs2, ht2⟩
  have HT2 := Lib.hid (HT1.out.over ht2 (by have := HSB.out; have := HBM.out; intro j hj; simp at hj; omega))
  clear ht2 hs1
  go_wp2_with fail
  refine (add_at w2 sb bm 4294967295 1 _ hs2 (by omega) 2 (by decide) false (by decide)).mono ?_
  rintro e w3 ⟨rfl, hs3, ht3⟩
  have HT3 := Lib.hid (HT2.out.over ht3 (by have := HSB.out; have := HBM.out; intro j hj; simp at hj; omega))
  clear ht3 hs2
  go_wp2_with fail
  refine (add_at w3 sb bm 4294967295 0 _ hs3 (by omega) 1 (by decide) true (by decide)).mono ?_
  rintro e w4 ⟨rfl, hs4, ht4⟩
  have HT4 := Lib.hid (HT3.out.over ht4 (by have := HSB.out; have := HBM.out; intro j hj; simp at hj; omega))
  have hs4 : IsSet w4 sb bm 4294967295 wF := hs4
  clear ht4 hs3
  have hc4 := count_any w4 sb bm _ _ hs4
  rw [wF_cnt] at hc4
  go_wp2_with fail
  refine hc4.mono ?_
  rintro e w' ⟨rfl, rfl⟩
  clear hc4
  go_wp2_with fail
  refine (settle_any w4 sb bm _ _ hs4 2 wF_run).mono ?_
  rintro e w5 ⟨rfl, hs5, ht5⟩
  have HT5 := Lib.hid (HT4.out.over ht5 (by have := HSB.out; have := HBM.out; intro j hj; simp at hj; omega))
  rw [wF_shf] at hs5
  have hs5 : IsSet w5 sb bm 1 none0 := hs5
  clear ht5 hs4
  go_wp2_with fail
  refine (base_any w5 sb bm _ _ hs5).mono ?_
  rintro e w' ⟨rfl, rfl⟩
  have hc5 := count_any w5 sb bm _ _ hs5
  rw [cnt_none0] at hc5
  go_wp2_with fail
  refine hc5.mono ?_
  rintro e w' ⟨rfl, rfl⟩
  clear hc5
  have hl5 := last_any w5 sb bm _ _ hs5 0 none0_lst
  have el : ((1 : Int) + ((0 : Nat) : Int)) % 4294967296 = 1 := by decide
  rw [el] at hl5
  clear el
  go_wp2_with fail
  refine hl5.mono ?_
  rintro e w6 ⟨rfl, ht6⟩
  have hs6 := hs5.turn ht6 (by simp) (by simp)
  have HT6 := Lib.hid (HT5.out.trans ht6)
  clear ht6 hs5 hl5
  go_wp2_with fail
  refine (gaps_any w6 sb bm _ _ hs6 9 (by omega) 0 none0_lst [] none0_gaps).mono ?_
  rintro e w7 ⟨a, c, rfl, hrow, ht7⟩
  have HT7 := Lib.hid (HT6.out.trans ht7)
  clear ht7 hs6 hrow
  go_wp2
  go_ret
  exact ⟨rfl, HT7.out⟩
end Go.Proofs.Ytjdkbcecnlfhjaa
