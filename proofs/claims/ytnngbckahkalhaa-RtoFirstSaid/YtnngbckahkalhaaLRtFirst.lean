/-
  The walk of RtoFirst.
-/
import Derived.Test.YtnngbckahkalhaaRtWk
import Derived.Test.YtnngbckahkalhaaFrame
import Derived.Deep.Cut
namespace Go.Proofs.Ytnngbckahkalhaa
open Go.RowKit
set_option linter.unusedVariables false

set_option maxHeartbeats 3200000 in
theorem rtoFirst_walk (first lo hi t backs : Int) (w : World) (w1 : (Lit.int .i64 first).wf = true) (w2 : (Lit.int .i64 lo).wf = true) (w3 : (Lit.int .i64 hi).wf = true) (w4 : (Lit.int .i64 t).wf = true) (w5 : (Lit.int .u8 backs).wf = true) :
    Calls Try.prog 7 #[.int .i64 first, .int .i64 lo, .int .i64 hi, .int .i64 t, .int .u8 backs] w fun e w' => e = .returned (.bool true) ∧ Below w.heap.size w w' := by
  have b5 := wf_u8_in w5
  have b4 := wf_i64_in w4
  clear w1 w2 w3 w4 w5
  by_cases htk : takes first lo hi = true
  · have hn := new_yes w first lo hi htk
    obtain ⟨h1, h2, h3, h4⟩ := takes_iff.1 htk
    clear htk
    obtain ⟨g, hg⟩ : ∃ g, g = w.heap.size := ⟨_, rfl⟩
    rw [← hg] at hn
    have HGG := Lib.hid hg
    clear hg
    obtain ⟨N, rfl⟩ : ∃ N : Nat, backs = (N : Int) := ⟨backs.toNat, by omega⟩
    go_enter Try.func7, Try.ntmps7
    go_wp2_with fail
    refine hn.mono ?_
    rintro e wa ⟨rfl, hs1, ht1, _⟩
    have HT1 := Lib.hid ht1
    have HS1 := Lib.hid hs1
    clear ht1 hs1 hn
    go_wp2
    go_loopw [13] (fun x wr => ∃ (i : Nat) (v : Int), i ≤ N ∧ x = .int .i64 (i : Int) ∧ Est 44 wr g v lo hi false 0 0 ∧ Turn [] w wr) (fun x _ => N - (intOf x).toNat)
    case atStart => exact ⟨0, first, by omega, rfl, HS1.out, HT1.out⟩
    case round =>
      obtain ⟨i, v, hi', rfl, hs, hT⟩ := hrel
      have HT := Lib.hid hT
      clear hT
      by_cases hil : i < N
      · go_wp2_with fail
        refine (back_any wr g v lo hi false 0 0 hs).mono ?_
        rintro e wn ⟨rfl, hsn, htn⟩
        have HTn := Lib.hid (HT.out.over htn (by have := HGG.out; intro j hj; simp at hj; omega))
        clear htn hs
        go_wp2
        go_roundw
        case rel => exact ⟨i + 1, _, by omega, by go_num, hsn, HTn.out⟩
        case measure => simp [intOf]; omega
      · obtain rfl : N = i := by omega
        have hv := value_any wr g v lo hi false 0 0 hs
        by_cases ht : t < 0
        · have d1 : decide (t < 0) = true := by simpa using ht
          have hsm := sample_neg wr g t ht
          have hso := smooth_no wr g v lo hi 0 0 hs
          clear ht
          go_wp2_with fail
          refine hv.mono ?_
          rintro e w' ⟨rfl, rfl⟩
          go_wp2_with fail
          refine hsm.mono ?_
          rintro e w' ⟨rfl, rfl⟩
          clear hsm
          go_wp2_with fail
          refine hso.mono ?_
          rintro e w' ⟨rfl, rfl⟩
          clear hso
          go_wp2_with fail
          refine hv.mono ?_
          rintro e w' ⟨rfl, rfl⟩
          clear hv
          go_wp2_with fail
          refine (works_any wr).mono ?_
          rintro e w5 ⟨rfl, ht5⟩
          have HT5 := Lib.hid (HT.out.trans ht5)
          clear ht5
          go_wp2
          go_ret
          exact ⟨rfl, HT5.out.below (Nat.le_refl _) (by simp)⟩
        · have d1 : decide (t < 0) = false := by simpa using ht
          obtain ⟨m, hm⟩ : ∃ m, m = min t 1048576 := ⟨_, rfl⟩
          have hm2 : 0 ≤ m ∧ m ≤ 1048576 := by omega
          have hsm := sample_at wr g v lo hi false 0 0 t hs (by omega) (min (max (m + max 1 (2 * m)) lo) hi) (8 * m) (2 * m) (by rw [← hm]; rfl) (by rw [← hm]; rfl) (by unfold nX lim; omega)
          have hso := fun W (h : Est 44 W g (min (max (m + max 1 (2 * m)) lo) hi) lo hi true (8 * m) (2 * m)) => smooth_yes W g _ lo hi (8 * m) (2 * m) h
          rw [show 8 * m / 8 = m by omega] at hso
          have HSO := Lib.hid hso
          have HM := Lib.hid hm
          clear ht hm hso
          go_wp2_with fail
          refine hv.mono ?_
          rintro e w' ⟨rfl, rfl⟩
          clear hv
          go_wp2_with fail
          refine hsm.mono ?_
          rintro e w5 ⟨rfl, hs5, ht5⟩
          have HT5 := Lib.hid (HT.out.over ht5 (by have := HGG.out; intro j hj; simp at hj; omega))
          clear hsm ht5
          go_wp2_with fail
          refine (HSO.out w5 hs5).mono ?_
          rintro e w' ⟨rfl, rfl⟩
          have hv5 := value_any w5 g _ lo hi true _ _ hs5
          clear hs5
          go_upto_region 14 with fail
          rw [← HM.out]
          go_wp2_with fail
          refine hv5.mono ?_
          rintro e w' ⟨rfl, rfl⟩
          go_wp2_with fail
          refine (works_any w5).mono ?_
          rintro e w6 ⟨rfl, ht6⟩
          have HT6 := Lib.hid (HT5.out.trans ht6)
          clear ht6
          go_wp2
          go_ret
          exact ⟨rfl, HT6.out.below (Nat.le_refl _) (by simp)⟩
  · have hn := new_no w first lo hi (by simpa using htk)
    clear htk
    go_enter Try.func7, Try.ntmps7
    go_wp2_with fail
    refine hn.mono ?_
    rintro e w' ⟨rfl, rfl⟩
    go_wp2_with fail
    refine (works_any w).mono ?_
    rintro e w1 ⟨rfl, ht1⟩
    go_wp2
    go_ret
    exact ⟨rfl, ht1.below (Nat.le_refl _) (by simp)⟩
end Go.Proofs.Ytnngbckahkalhaa
