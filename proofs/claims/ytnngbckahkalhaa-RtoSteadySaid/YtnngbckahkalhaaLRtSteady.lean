/-
  The walk of RtoSteady.
-/
import Derived.Test.YtnngbckahkalhaaRtWk
import Derived.Test.YtnngbckahkalhaaFrame
import Derived.Deep.Cut
namespace Go.Proofs.Ytnngbckahkalhaa
open Go.RowKit
set_option linter.unusedVariables false

/-- What the variation cannot be above. -/
def dk : Nat → Int
  | 0 => 2097152
  | n + 1 => dk n - dk n / 4
theorem dk_99 : dk 99 = 3 := by decide +kernel
/-- What is so behind i samples of t. -/
def Stead (t lo hi : Int) (i : Nat) (x : Int) (any : Bool) (S V : Int) : Prop := (i = 0 ∧ any = false) ∨ (1 ≤ i ∧ any = true ∧ S = 8 * t ∧ 0 ≤ V ∧ V ≤ dk (i - 1) ∧ x = nX (8 * t) V lo hi)
theorem nS_same {any : Bool} {S t : Int} (h : any = true → S = 8 * t) : nS any S t = 8 * t := by
  cases any
  · rfl
  · have := h rfl
    simp only [nS, if_true]
    omega
theorem nV_same {V t : Int} : nV true (8 * t) V t = V - V / 4 := by
  simp only [nV, if_true]
  omega
theorem Stead.next {t lo hi : Int} {i : Nat} {x : Int} {any : Bool} {S V : Int} (h : Stead t lo hi i x any S V) (h0 : 0 ≤ t) (h1 : t ≤ 1048576) :
    nS any S t = 8 * t ∧ Stead t lo hi (i + 1) (nX (8 * t) (nV any S V t) lo hi) true (8 * t) (nV any S V t) := by
  rcases h with ⟨rfl, rfl⟩ | ⟨hi1, rfl, rfl, hv0, hv, hx⟩
  · refine ⟨nS_same (fun h => by cases h), .inr ⟨by omega, rfl, rfl, ?_, ?_, rfl⟩⟩
    · simp only [nV, Bool.false_eq_true, if_false]; omega
    · simp only [nV, Bool.false_eq_true, if_false, Nat.sub_self, Nat.zero_add, dk]; omega
  · refine ⟨nS_same (fun _ => rfl), .inr ⟨by omega, rfl, rfl, ?_, ?_, rfl⟩⟩
    · rw [nV_same]; omega
    · rw [nV_same]
      obtain ⟨k, rfl⟩ : ∃ k, i = k + 1 := ⟨i - 1, by omega⟩
      simp only [Nat.add_sub_cancel] at hv ⊢
      show _ ≤ dk k - dk k / 4
      omega

theorem sample_steady (w0 : World) (g : Nat) (x lo hi : Int) (any : Bool) (S V t : Int) (i : Nat) (h : Est 44 w0 g x lo hi any S V) (h0 : 0 ≤ t ∧ t ≤ 1048576) (hs : Stead t lo hi i x any S V) :
    Calls Try.prog 14 #[.pointer (some ⟨g, 0, none⟩), .int .i64 t] w0 fun e w' => e = .returned (.int .i64 0) ∧
      Est 44 w' g (nX (8 * t) (nV any S V t) lo hi) lo hi true (8 * t) (nV any S V t) ∧ Turn [g] w0 w' := by
  have hm : min t 1048576 = t := by omega
  exact sample_at w0 g x lo hi any S V t h h0.1 _ _ _ (by rw [hm]; exact (hs.next h0.1 h0.2).1) (by rw [hm]) rfl
theorem smooth_steady (W : World) (g : Nat) (x lo hi V t : Int) (h : Est 44 W g x lo hi true (8 * t) V) :
    Calls Try.prog 16 #[.pointer (some ⟨g, 0, none⟩)] W fun e w' => e = .returned (.tuple #[.int .i64 t, .bool true]) ∧ W = w' := by
  have := smooth_yes W g x lo hi (8 * t) V h
  rw [show 8 * t / 8 = t by omega] at this
  exact this

set_option maxHeartbeats 3200000 in
theorem steadyF (first lo hi t : Int) (w : World) (htk : takes first lo hi = true) (ht : 0 ≤ t ∧ t ≤ 1048576) :
    Calls Try.prog 5 #[.int .i64 first, .int .i64 lo, .int .i64 hi, .int .i64 t] w fun e w' => e = .returned (.bool true) ∧ Below w.heap.size w w' := by
  have hn := new_yes w first lo hi htk
  obtain ⟨h1, h2, h3, h4⟩ := takes_iff.1 htk
  clear htk
  have d1 : decide (t < 0) = false := by simp; omega
  have d2 : decide (1048576 < t) = false := by simp; omega
  obtain ⟨g, hg⟩ : ∃ g, g = w.heap.size := ⟨_, rfl⟩
  rw [← hg] at hn
  have HGG := Lib.hid hg
  clear hg
  go_enter Try.func5, Try.ntmps5
  go_wp2_with fail
  refine hn.mono ?_
  rintro e wa ⟨rfl, hs1, ht1, _⟩
  have HT1 := Lib.hid ht1
  have HS1 := Lib.hid hs1
  clear ht1 hs1 hn
  go_wp2
  go_loopw [11, 12, 13] (fun x y z wr => ∃ (i : Nat) (v : Int) (any : Bool) (S V : Int), i ≤ 100 ∧ x = .int .i64 (i : Int) ∧ Est 44 wr g v lo hi any S V ∧ Turn [] w wr ∧ Stead t lo hi i v any S V) (fun x _ _ _ => 100 - (intOf x).toNat)
  case atStart => exact ⟨0, first, false, 0, 0, by omega, rfl, HS1.out, HT1.out, .inl ⟨rfl, rfl⟩⟩
  case round =>
    obtain ⟨i, v, any, S, V, hi', rfl, hs, hT, hst⟩ := hrel
    have HT := Lib.hid hT
    have HST := Lib.hid hst
    clear hT hst
    by_cases hil : i < 100
    · have hsm := sample_steady wr g v lo hi any S V t i hs ht HST.out
      clear hs
      go_wp2_with fail
      refine hsm.mono ?_
      rintro e wn ⟨rfl, hsn, htn⟩
      have HTn := Lib.hid (HT.out.over htn (by have := HGG.out; intro j hj; simp at hj; omega))
      have HSn := Lib.hid hsn
      have hso := smooth_steady wn g _ lo hi _ t hsn
      clear htn hsm hsn
      go_wp2_with fail
      refine hso.mono ?_
      rintro e w' ⟨rfl, rfl⟩
      clear hso
      go_wp2
      go_roundw
      case rel => exact ⟨i + 1, _, _, _, _, by omega, by go_num, HSn.out, HTn.out, (HST.out.next ht.1 ht.2).2⟩
      case measure => simp [intOf]; omega
    · obtain rfl : i = 100 := by omega
      rcases HST.out with ⟨h0, _⟩ | ⟨_, rfl, rfl, hV0, hV1, hv⟩
      · exact absurd h0 (by decide)
      rw [show 100 - 1 = 99 from rfl, dk_99] at hV1
      have HV := Lib.hid (And.intro hV0 (And.intro hV1 hv))
      have hv0 := value_any wr g v lo hi true _ V hs
      have HS := Lib.hid hs
      clear HST hV0 hV1 hv hs
      go_wp2_with fail
      refine hv0.mono ?_
      rintro e w' ⟨rfl, rfl⟩
      clear hv0
      go_wp2
      go_loopw [15] (fun x wr => ∃ (j : Nat) (v' V' : Int), j ≤ 20 ∧ x = .int .i64 (j : Int) ∧ Est 44 wr g v' lo hi true (8 * t) V' ∧ Turn [] w wr ∧ 0 ≤ V' ∧ V' ≤ V ∧ v' = nX (8 * t) V' lo hi) (fun x _ => 20 - (intOf x).toNat)
      case atStart => exact ⟨0, v, V, by omega, rfl, HS.out, HT.out, HV.out.1, Int.le_refl _, HV.out.2.2⟩
      case round =>
        obtain ⟨j, v', V', hj, rfl, hs2, hT2, hVa, hVb, hv'⟩ := hrel
        have HT2 := Lib.hid hT2
        have HV2 := Lib.hid (And.intro hVa (And.intro hVb hv'))
        clear hT2 hVa hVb hv'
        by_cases hjl : j < 20
        · have hm : min t 1048576 = t := by omega
          have hsm := sample_at wr g v' lo hi true (8 * t) V' t hs2 ht.1 (nX (8 * t) (V' - V' / 4) lo hi) (8 * t) (V' - V' / 4) (by rw [hm]; exact nS_same (fun _ => rfl)) (by rw [hm]; exact nV_same) rfl
          clear hs2 hm
          go_wp2_with fail
          refine hsm.mono ?_
          rintro e wn ⟨rfl, hsn, htn⟩
          have HTn := Lib.hid (HT2.out.over htn (by have := HGG.out; intro j hj; simp at hj; omega))
          have HSn := Lib.hid hsn
          clear htn hsm hsn
          go_wp2
          go_roundw
          case rel => exact ⟨j + 1, _, _, by omega, by go_num, HSn.out, HTn.out, by have := HV2.out; omega, by have := HV2.out; omega, rfl⟩
          case measure => simp [intOf]; omega
        · obtain rfl : j = 20 := by omega
          have hv2 := value_any wr g v' lo hi true _ V' hs2
          have e0 : v' = min (max (t + max 1 V') lo) hi := by rw [HV2.out.2.2]; unfold nX lim; omega
          have e00 : v = min (max (t + max 1 V) lo) hi := by rw [HV.out.2.2]; unfold nX lim; omega
          have hVV := HV2.out.2.1
          have hV3 := HV.out.2.1
          have e1 : decide (v' ≤ v) = true := by simp; omega
          have e2 : decide (min (max (t + 1) lo) hi ≤ v') = true := by simp only [decide_eq_true_eq]; omega
          have e3 : decide (v' ≤ min (max (t + 3) lo) hi) = true := by simp only [decide_eq_true_eq]; omega
          clear hs2 HV HV2 HS e0 e00 hVV hV3
          go_wp2_with fail
          refine hv2.mono ?_
          rintro e w' ⟨rfl, rfl⟩
          go_wp2_with fail
          refine hv2.mono ?_
          rintro e w' ⟨rfl, rfl⟩
          go_wp2_with fail
          refine hv2.mono ?_
          rintro e w' ⟨rfl, rfl⟩
          clear hv2
          go_wp2_with fail
          refine (works_any wr).mono ?_
          rintro e w6 ⟨rfl, ht6⟩
          have HT6 := Lib.hid (HT2.out.trans ht6)
          clear ht6
          go_wp2
          go_ret
          exact ⟨rfl, HT6.out.below (Nat.le_refl _) (by simp)⟩

set_option maxHeartbeats 800000 in
theorem steadyN (first lo hi t : Int) (w : World) (htk : takes first lo hi = false) :
    Calls Try.prog 5 #[.int .i64 first, .int .i64 lo, .int .i64 hi, .int .i64 t] w fun e w' => e = .returned (.bool true) ∧ Below w.heap.size w w' := by
  have hn := new_no w first lo hi htk
  clear htk
  go_enter Try.func5, Try.ntmps5
  go_wp2_with fail
  refine hn.mono ?_
  rintro e w' ⟨rfl, rfl⟩
  clear hn
  go_wp2_with fail
  refine (works_any w).mono ?_
  rintro e w1 ⟨rfl, ht1⟩
  go_wp2
  go_ret
  exact ⟨rfl, ht1.below (Nat.le_refl _) (by simp)⟩
set_option maxHeartbeats 800000 in
theorem steadyT (first lo hi t : Int) (w : World) (htk : takes first lo hi = true) (ht : t < 0 ∨ 1048576 < t) :
    Calls Try.prog 5 #[.int .i64 first, .int .i64 lo, .int .i64 hi, .int .i64 t] w fun e w' => e = .returned (.bool true) ∧ Below w.heap.size w w' := by
  have hn := new_yes w first lo hi htk
  clear htk
  rcases ht with ht | ht
  · have d1 : decide (t < 0) = true := by simpa using ht
    clear ht
    go_enter Try.func5, Try.ntmps5
    go_wp2_with fail
    refine hn.mono ?_
    rintro e wa ⟨rfl, _, ht1, _⟩
    clear hn
    go_wp2_with fail
    refine (works_any wa).mono ?_
    rintro e w1 ⟨rfl, ht2⟩
    have HT := Lib.hid (ht1.trans ht2)
    clear ht1 ht2
    go_wp2
    go_ret
    exact ⟨rfl, HT.out.below (Nat.le_refl _) (by simp)⟩
  · have d1 : decide (t < 0) = false := by simp; omega
    have d2 : decide (1048576 < t) = true := by simpa using ht
    clear ht
    go_enter Try.func5, Try.ntmps5
    go_wp2_with fail
    refine hn.mono ?_
    rintro e wa ⟨rfl, _, ht1, _⟩
    clear hn
    go_wp2_with fail
    refine (works_any wa).mono ?_
    rintro e w1 ⟨rfl, ht2⟩
    have HT := Lib.hid (ht1.trans ht2)
    clear ht1 ht2
    go_wp2
    go_ret
    exact ⟨rfl, HT.out.below (Nat.le_refl _) (by simp)⟩

theorem rtoSteady_walk (first lo hi t : Int) (w : World) (w1 : (Lit.int .i64 first).wf = true) (w2 : (Lit.int .i64 lo).wf = true) (w3 : (Lit.int .i64 hi).wf = true) (w4 : (Lit.int .i64 t).wf = true) :
    Calls Try.prog 5 #[.int .i64 first, .int .i64 lo, .int .i64 hi, .int .i64 t] w fun e w' => e = .returned (.bool true) ∧ Below w.heap.size w w' := by
  cases htk : takes first lo hi
  · exact steadyN first lo hi t w htk
  · by_cases ht : 0 ≤ t ∧ t ≤ 1048576
    · exact steadyF first lo hi t w htk ht
    · exact steadyT first lo hi t w htk (by omega)
end Go.Proofs.Ytnngbckahkalhaa
