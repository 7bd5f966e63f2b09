/-
  The walk of CookieDerives.
-/
import Derived.Test.YtcmaclaiholpfaaDoorKApi
namespace Go.Proofs.YtcmaclaiholpfaaDoor
open Go.RowKit
set_option linter.unusedVariables false

theorem deriveK_ne (zs ys : List Int) : ¬ (deriveK zs ys).1 = 0 := by
  unfold deriveK
  simp only []
  split
  · omega
  · assumption

set_option maxRecDepth 10000 in
set_option maxHeartbeats 3200000 in
theorem cookieDerives_of (KD : KDeriveOk) (WK : KWorks) (a : Option Addr) (len cap : Nat) (z : List Int) (b : Option Addr) (len2 cap2 : Nat) (z2 : List Int) (w : World) (w0 : IsRow .u8 w a len cap z) (w1 : IsRow .u8 w b len2 cap2 z2) (ht : Tab w) :
    Calls Tryd.prog 8 #[.slice a len cap, .slice b len2 cap2] w fun e w' => e = .returned (.bool true) ∧ Below w.heap.size w w' := by
  obtain ⟨hr, hbyt, hcap, hmax⟩ := w0.reads
  obtain ⟨hr2, hbyt2, hcap2, hmax2⟩ := w1.reads
  clear w0 w1
  generalize z.take len = zs at hr hbyt
  generalize z2.take len2 = ys at hr2 hbyt2
  have HT := Lib.hid ht
  have HR := Lib.hid (And.intro hr (And.intro hbyt (And.intro hcap hmax)))
  have HR2 := Lib.hid (And.intro hr2 (And.intro hbyt2 (And.intro hcap2 hmax2)))
  clear hr hbyt hr2 hbyt2 ht hcap hcap2
  unfold maxLen at hmax hmax2
  by_cases hlong : 4096 < len
  · have hg : (4096 : Int) < len := by omega
    go_enter Tryd.func8, Tryd.ntmps8
    go_wp2_with (go_at_call 9; refine (WK _ HT.out).mono ?_; rintro e w' ⟨rfl, hb⟩)
    go_ret
    exact ⟨rfl, hb⟩
  by_cases hlong2 : 4096 < len2
  · have hg : ¬ (4096 : Int) < len := by omega
    have hg2 : (4096 : Int) < len2 := by omega
    go_enter Tryd.func8, Tryd.ntmps8
    go_wp2_with (go_at_call 9; refine (WK _ HT.out).mono ?_; rintro e w' ⟨rfl, hb⟩)
    go_ret
    exact ⟨rfl, hb⟩
  have hg : ¬ (4096 : Int) < len := by omega
  have hg2 : ¬ (4096 : Int) < len2 := by omega
  have hne := deriveK_ne zs ys
  obtain ⟨D, hD⟩ : ∃ D, D = deriveK zs ys := ⟨_, rfl⟩
  rw [← hD] at hne
  have HD := Lib.hid hD
  clear hD
  have ht1 := Lib.hid (twinK_any b len2 cap2 ys w HR2.out.1 (by omega))
  go_enter Tryd.func8, Tryd.ntmps8
  go_wp2_with fail
  refine ht1.out.mono ?_
  rintro e w1 ⟨a1, c1, rfl, hr1, hb1⟩
  have H1 := Lib.hid (And.intro hb1 hr1)
  have ht2 := Lib.hid (twinK_any a len cap zs w1 (HR.out.1.below hb1) (by omega))
  clear ht1 hb1 hr1
  go_wp2_with fail
  refine ht2.out.mono ?_
  rintro e w2 ⟨a2, c2, rfl, hr2, hb2⟩
  have H2 := Lib.hid (And.intro (H1.out.1.trans (hb2.mono H1.out.1.size)) (And.intro (H1.out.2.keep hb2) hr2))
  have hd := KD a2 len c2 zs a1 len2 c1 ys w2 hr2.reads HR.out.2.1 (by omega) hr2.le H2.out.2.1.reads HR2.out.2.1 (by omega) H2.out.2.1.le (HT.out.below H2.out.1 HT.out.lt)
  rw [← HD.out] at hd
  have HC := Lib.hid hd
  clear ht2 hb2 hr2 H1 hd
  go_wp2_with fail
  refine HC.out.mono ?_
  rintro e w3 ⟨rfl, hb3⟩
  have H3 := Lib.hid (And.intro (H2.out.1.trans (hb3.mono H2.out.1.size)) (H2.out.2.1.keep hb3))
  have hd := rderive_any a len cap zs b len2 cap2 ys w3 (HR.out.1.below H3.out.1) HR.out.2.1 (by omega) (HR2.out.1.below H3.out.1) HR2.out.2.1 (by omega)
  rw [← HD.out] at hd
  have HC2 := Lib.hid hd
  clear hb3 hd HC H2
  go_wp2_with fail
  refine HC2.out.mono ?_
  rintro e w4 ⟨rfl, hb4⟩
  have H4 := Lib.hid (And.intro (H3.out.1.trans (hb4.mono H3.out.1.size)) (H3.out.2.keep hb4))
  have hd := KD a len cap zs b len2 cap2 ys w4 (HR.out.1.below H4.out.1) HR.out.2.1 (by omega) HR.out.2.2.1 (HR2.out.1.below H4.out.1) HR2.out.2.1 (by omega) HR2.out.2.2.1 (HT.out.below H4.out.1 HT.out.lt)
  rw [← HD.out] at hd
  have HC := Lib.hid hd
  clear hb4 hd HC2 H3
  go_wp2_with fail
  refine HC.out.mono ?_
  rintro e w5 ⟨rfl, hb5⟩
  have H5 := Lib.hid (And.intro (H4.out.1.trans (hb5.mono H4.out.1.size)) (H4.out.2.keep hb5))
  have hs := sameK_any a1 b len2 c1 cap2 len2 ys ys w5 H5.out.2.reads (HR2.out.1.below H5.out.1) HR2.out.2.1 HR2.out.2.1
  rw [decide_eq_true rfl] at hs
  have HS := Lib.hid hs
  clear hb5 hs HC H4
  go_wp2_with fail
  refine HS.out.mono ?_
  rintro e w6 ⟨rfl, rfl⟩
  go_wp2_with fail
  refine (WK w5 (HT.out.below H5.out.1 HT.out.lt)).mono ?_
  rintro e w7 ⟨rfl, hb7⟩
  have H7 := Lib.hid (H5.out.1.trans (hb7.mono H5.out.1.size))
  clear hb7
  go_wp2
  go_ret
  exact ⟨by simp [hne], H7.out⟩
end Go.Proofs.YtcmaclaiholpfaaDoor
