/-
  The walk of CookieReads.
-/
import Derived.Test.YtcmaclaiholpfaaDoorKApi
namespace Go.Proofs.YtcmaclaiholpfaaDoor
open Go.RowKit
set_option linter.unusedVariables false

set_option maxRecDepth 10000 in
set_option maxHeartbeats 3200000 in
theorem cookieReads_of (KR : KReadOk) (WK : KWorks) (a : Option Addr) (len cap : Nat) (z : List Int) (b : Option Addr) (len2 cap2 : Nat) (z2 : List Int) (w : World) (w0 : IsRow .u8 w a len cap z) (w1 : IsRow .u8 w b len2 cap2 z2) (ht : Tab w) :
    Calls Tryd.prog 4 #[.slice a len cap, .slice b len2 cap2] w fun e w' => e = .returned (.bool true) ∧ Below w.heap.size w w' := by
  obtain ⟨hr, hbyt, hcap, hmax⟩ := w0.reads
  obtain ⟨hr2, hbyt2, hcap2, hmax2⟩ := w1.reads
  clear w0 w1
  generalize z.take len = zs at hr hbyt
  generalize z2.take len2 = ys at hr2 hbyt2
  have HT := Lib.hid ht
  have HR := Lib.hid (And.intro hr (And.intro hbyt (And.intro hcap hmax)))
  have HR2 := Lib.hid (And.intro hr2 (And.intro hbyt2 (And.intro hcap2 hmax2)))
  clear hr hbyt hr2 hbyt2 ht hcap hcap2
  unfold maxLen at hmax hmax2
  by_cases hlong : 4096 < len
  · have hg : (4096 : Int) < len := by omega
    go_enter Tryd.func4, Tryd.ntmps4
    go_wp2_with (go_at_call 9; refine (WK _ HT.out).mono ?_; rintro e w' ⟨rfl, hb⟩)
    go_ret
    exact ⟨rfl, hb⟩
  by_cases hlong2 : 4096 < len2
  · have hg : ¬ (4096 : Int) < len := by omega
    have hg2 : (4096 : Int) < len2 := by omega
    go_enter Tryd.func4, Tryd.ntmps4
    go_wp2_with (go_at_call 9; refine (WK _ HT.out).mono ?_; rintro e w' ⟨rfl, hb⟩)
    go_ret
    exact ⟨rfl, hb⟩
  have hg : ¬ (4096 : Int) < len := by omega
  have hg2 : ¬ (4096 : Int) < len2 := by omega
  obtain ⟨K, hK⟩ : ∃ K, K = (readK zs ys).1 := ⟨_, rfl⟩
  obtain ⟨m, hm⟩ : ∃ m, m = (readK zs ys).2 := ⟨_, rfl⟩
  have HD := Lib.hid (And.intro hK hm)
  clear hK hm
  have ht1 := Lib.hid (twinK_any a len cap zs w HR.out.1 (by omega))
  go_enter Tryd.func4, Tryd.ntmps4
  go_wp2_with fail
  refine ht1.out.mono ?_
  rintro e w1 ⟨a1, c1, rfl, hr1, hb1⟩
  have H1 := Lib.hid (And.intro hb1 hr1)
  have ht2 := Lib.hid (twinK_any b len2 cap2 ys w1 (HR2.out.1.below hb1) (by omega))
  clear ht1 hb1 hr1
  go_wp2_with fail
  refine ht2.out.mono ?_
  rintro e w2 ⟨a2, c2, rfl, hr2, hb2⟩
  have H2 := Lib.hid (And.intro (H1.out.1.trans (hb2.mono H1.out.1.size)) (And.intro (H1.out.2.keep hb2) (hr2.lower H1.out.1.size)))
  have hd := KR a1 len c1 zs a2 len2 c2 ys w2 H2.out.2.1.reads HR.out.2.1 (by omega) H2.out.2.1.le hr2.reads HR2.out.2.1 (by omega) hr2.le hr2.max (HT.out.below H2.out.1 HT.out.lt)
  rw [← HD.out.1, ← HD.out.2] at hd
  have HC := Lib.hid hd
  clear ht2 hb2 hr2 H1 hd
  go_wp2_with fail
  refine HC.out.mono ?_
  rintro e w3 ⟨rfl, hb3⟩
  obtain ⟨w3', hw3⟩ : ∃ w3', w3' = w3.alloc (.cells K.cells.toArray 26) := ⟨_, rfl⟩
  have hb33 : Below w3.heap.size w3 w3' := by rw [hw3]; exact (Below.refl _ _).alloc (Nat.le_refl _) _
  have hA3 : Arr w3' w3.heap.size 26 K.cells := by rw [hw3]; exact arr_new _ _ _
  have hbb := hb3.trans (hb33.mono hb3.size)
  have H3 := Lib.hid (And.intro (H2.out.1.trans (hbb.mono H2.out.1.size)) (And.intro (H2.out.2.1.keep hbb) (And.intro (H2.out.2.2.keep hbb) (And.intro hA3 hw3))))
  have hd := rreadK_any a len cap zs b len2 cap2 ys w3' (HR.out.1.below H3.out.1) HR.out.2.1 (by omega) (HR2.out.1.below H3.out.1) HR2.out.2.1 (by omega) HR2.out.2.2.1
  rw [← HD.out.1, ← HD.out.2, hw3] at hd
  unfold KV.cells at hd
  have HC2 := Lib.hid hd
  clear hb3 hb33 hA3 hbb hw3 hd HC H2
  unfold KV.val
  go_wp2_with fail
  refine HC2.out.mono ?_
  rintro e w4 ⟨rfl, hb4⟩
  have e3 := H3.out.2.2.2.2
  unfold KV.cells at e3
  rw [← e3] at hb4
  obtain ⟨w4', hw4⟩ : ∃ w4', w4' = w4.alloc (.cells K.cells.toArray 26) := ⟨_, rfl⟩
  have hb44 : Below w4.heap.size w4 w4' := by rw [hw4]; exact (Below.refl _ _).alloc (Nat.le_refl _) _
  have hbb := hb4.trans (hb44.mono hb4.size)
  have hA3 := H3.out.2.2.2.1.keep hbb
  have hA4 : Arr w4' w4.heap.size 26 K.cells := by rw [hw4]; exact arr_new _ _ _
  have f0 := hA3.cell (i := 0) rfl
  have g0 := hA4.cell (i := 0) rfl
  have f1 := hA3.cell (i := 1) rfl
  have g1 := hA4.cell (i := 1) rfl
  have f2 := hA3.cell (i := 2) rfl
  have g2 := hA4.cell (i := 2) rfl
  have f3 := hA3.cell (i := 3) rfl
  have g3 := hA4.cell (i := 3) rfl
  have f4 := hA3.cell (i := 4) rfl
  have g4 := hA4.cell (i := 4) rfl
  have f5 := hA3.cell (i := 5) rfl
  have g5 := hA4.cell (i := 5) rfl
  have f6 := hA3.cell (i := 6) rfl
  have g6 := hA4.cell (i := 6) rfl
  have f7 := hA3.cell (i := 7) rfl
  have g7 := hA4.cell (i := 7) rfl
  have H4 := Lib.hid (And.intro (H3.out.1.trans (hbb.mono H3.out.1.size)) (And.intro (H3.out.2.1.keep hbb) (H3.out.2.2.1.keep hbb)))
  have hs1 := sameK_any a1 a len c1 cap len zs zs w4' H4.out.2.1.reads (HR.out.1.below H4.out.1) HR.out.2.1 HR.out.2.1
  have hs2 := sameK_any a2 b len2 c2 cap2 len2 ys ys w4' H4.out.2.2.reads (HR2.out.1.below H4.out.1) HR2.out.2.1 HR2.out.2.1
  rw [decide_eq_true rfl] at hs1 hs2
  have hwk := WK w4' (HT.out.below H4.out.1 HT.out.lt)
  rw [hw4] at f0 g0 f1 g1 f2 g2 f3 g3 f4 g4 f5 g5 f6 g6 f7 g7 hs1 hs2 hwk
  unfold KV.cells at f0 g0 f1 g1 f2 g2 f3 g3 f4 g4 f5 g5 f6 g6 f7 g7 hs1 hs2 hwk
  have HS := Lib.hid (And.intro hs1 (And.intro hs2 (And.intro hwk hw4)))
  clear hb4 hb44 hbb hA3 hA4 HC2 H3 e3 hs1 hs2 hwk
  unfold KV.val
  go_wp2_with fail
  refine HS.out.1.mono ?_
  rintro e w5 ⟨rfl, rfl⟩
  go_wp2_with fail
  refine HS.out.2.1.mono ?_
  rintro e w5 ⟨rfl, rfl⟩
  go_wp2_with fail
  refine HS.out.2.2.1.mono ?_
  rintro e w5 ⟨rfl, hb5⟩
  have e4 := HS.out.2.2.2
  unfold KV.cells at e4
  rw [← e4] at hb5
  have H5 := Lib.hid (H4.out.1.trans (hb5.mono H4.out.1.size))
  clear hb5 e4
  go_wp2
  go_ret
  exact ⟨by simp, H5.out⟩
end Go.Proofs.YtcmaclaiholpfaaDoor
