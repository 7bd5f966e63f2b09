/-
  The walk of BodiesOnce.
-/
import Derived.Test.YtlihcckgnnnekaaBdGot
import Derived.BigQuiet
import Derived.Deep.QuietTactic
namespace Go.Proofs.Ytlihcckgnnnekaa
open Go.RowKit
set_option linter.unusedVariables false

set_option maxRecDepth 100000 in
set_option maxHeartbeats 1600000 in
theorem bodiesOnce_walk (k f : Int) (p : Option Addr) (n c : Nat) (z : List Int) (w : World) (wk : (Lit.int .u8 k).wf = true) (wf : (Lit.int .u8 f).wf = true) (w0 : IsRow .u8 w p n c z) :
    Calls Try.prog 9 #[.agg #[.int .u8 k, .int .u8 f, .slice p n c]] w fun e w' => e = .returned (.bool true) ∧ Below w.heap.size w w' := by
  obtain ⟨hr, hbyt, hcap, hmax⟩ := w0.reads
  clear w0 wk wf
  generalize z.take n = zs at hr hbyt
  obtain ⟨wb, hwb⟩ : ∃ wb, w.alloc (.cells #[.int .u8 k, .int .u8 f, .slice p n c] 28) = wb := ⟨_, rfl⟩
  have hbb : Below w.heap.size w wb := by rw [← hwb]; exact chunkBelow _ _ _ _
  have hCb : Arr wb w.heap.size 28 [.int .u8 k, .int .u8 f, .slice p n c] := by rw [← hwb]; exact chunkBox _ _ _ _
  have c0 := hCb.cell (i := 0) rfl
  have c1 := hCb.cell (i := 1) rfl
  have c2 := hCb.cell (i := 2) rfl
  obtain ⟨lg, hlg⟩ : ∃ lg, lg = decide (8192 < n) := ⟨_, rfl⟩
  have HLA := Lib.hid (large_any k f p n c wb lg hlg)
  have HR0 := Lib.hid (And.intro hr (And.intro hbyt hcap))
  have H0 := Lib.hid (And.intro hbb hCb)
  clear hr hbyt hbb hCb
  go_enter Try.func9, Try.ntmps9
  go_wp2_with fail
  refine HLA.out.mono ?_
  rintro e w1 ⟨rfl, hb1⟩
  have HB1 := Lib.hid (H0.out.1.trans (hb1.mono H0.out.1.size))
  have HC := Lib.hid (H0.out.2.keep hb1)
  clear hb1 H0 HLA c0 c1 c2
  cases lg with
  | true =>
    clear hlg
    go_wp2_with (go_at_call 13; refine (works_any _).mono ?_; rintro e w' ⟨rfl, hb⟩)
    go_ret
    exact ⟨rfl, HB1.out.trans (hb.mono HB1.out.size)⟩
  | false =>
  have hlen : n ≤ 8192 := by simpa using hlg.symm
  clear hlg
  have HG := Lib.hid (got_any k f p n c zs w1 (HR0.out.1.below HB1.out) HR0.out.2.1 HR0.out.2.2 (by omega))
  have c0 := HC.out.cell (i := 0) rfl
  have c1 := HC.out.cell (i := 1) rfl
  have c2 := HC.out.cell (i := 2) rfl
  go_wp2_with fail
  refine HG.out.mono ?_
  rintro e w2 ⟨rfl, hb2⟩
  have HB2 := Lib.hid (HB1.out.trans (hb2.mono HB1.out.size))
  have hc2 := HC.out.keep hb2
  clear c0 c1 c2
  have c0 := hc2.cell (i := 0) rfl
  clear hb2 hc2 HC HB1 HG
  cases ha : okAny k f zs with
  | false =>
    simp only [Bool.false_eq_true, if_false]
    by_cases k0 : k = 0
    · subst k0
      go_wp2_with (go_at_call 13; refine (works_any _).mono ?_; rintro e w' ⟨rfl, hb⟩)
      go_ret
      exact ⟨rfl, HB2.out.trans (hb.mono HB2.out.size)⟩
    have e0 : (k == 0) = false := by simpa using k0
    by_cases k1 : k = 1
    · subst k1
      go_wp2_with (go_at_call 13; refine (works_any _).mono ?_; rintro e w' ⟨rfl, hb⟩)
      go_ret
      exact ⟨rfl, HB2.out.trans (hb.mono HB2.out.size)⟩
    have e1 : (k == 1) = false := by simpa using k1
    by_cases k2 : k = 2
    · subst k2
      go_wp2_with (go_at_call 13; refine (works_any _).mono ?_; rintro e w' ⟨rfl, hb⟩)
      go_ret
      exact ⟨rfl, HB2.out.trans (hb.mono HB2.out.size)⟩
    have e2 : (k == 2) = false := by simpa using k2
    by_cases k3 : k = 3
    · subst k3
      go_wp2_with (go_at_call 13; refine (works_any _).mono ?_; rintro e w' ⟨rfl, hb⟩)
      go_ret
      exact ⟨rfl, HB2.out.trans (hb.mono HB2.out.size)⟩
    have e3 : (k == 3) = false := by simpa using k3
    by_cases k4 : k = 4
    · subst k4
      go_wp2_with (go_at_call 13; refine (works_any _).mono ?_; rintro e w' ⟨rfl, hb⟩)
      go_ret
      exact ⟨rfl, HB2.out.trans (hb.mono HB2.out.size)⟩
    have e4 : (k == 4) = false := by simpa using k4
    by_cases k5 : k = 5
    · subst k5
      go_wp2_with (go_at_call 13; refine (works_any _).mono ?_; rintro e w' ⟨rfl, hb⟩)
      go_ret
      exact ⟨rfl, HB2.out.trans (hb.mono HB2.out.size)⟩
    have e5 : (k == 5) = false := by simpa using k5
    by_cases k7 : k = 7
    · subst k7
      go_wp2_with (go_at_call 13; refine (works_any _).mono ?_; rintro e w' ⟨rfl, hb⟩)
      go_ret
      exact ⟨rfl, HB2.out.trans (hb.mono HB2.out.size)⟩
    have e7 : (k == 7) = false := by simpa using k7
    by_cases k8 : k = 192
    · subst k8
      go_wp2_with (go_at_call 13; refine (works_any _).mono ?_; rintro e w' ⟨rfl, hb⟩)
      go_ret
      exact ⟨rfl, HB2.out.trans (hb.mono HB2.out.size)⟩
    have e8 : (k == 192) = false := by simpa using k8
    clear k0 k1 k2 k3 k4 k5 k7 k8
    go_wp2_with (go_at_call 13; refine (works_any _).mono ?_; rintro e w' ⟨rfl, hb⟩)
    go_ret
    exact ⟨rfl, HB2.out.trans (hb.mono HB2.out.size)⟩
  | true =>
    have hk := okAny_known ha
    clear ha
    simp only [if_true]
    have hk8 : k = 0 ∨ k = 1 ∨ k = 2 ∨ k = 3 ∨ k = 4 ∨ k = 5 ∨ k = 7 ∨ k = 192 := by unfold knownK at hk; simpa using hk
    clear hk
    rcases hk8 with rfl | rfl | rfl | rfl | rfl | rfl | rfl | rfl
    all_goals
      go_wp2_with (go_at_call 13; refine (works_any _).mono ?_; rintro e w' ⟨rfl, hb⟩)
      go_ret
      exact ⟨rfl, HB2.out.trans (hb.mono HB2.out.size)⟩
end Go.Proofs.Ytlihcckgnnnekaa
