/-
  The reference's rto: Value, Smooth, New, Back, Sample.
-/
import Derived.Test.YtkgfogepbclhkaaChecked
import Derived.Test.YtkgfogepbclhkaaRt2
namespace Go.Proofs.Ytkgfogepbclhkaa
open Go.RowKit
set_option linter.unusedVariables false

section
variable (w : World) (g : Nat) (x lo hi : Int) (any : Bool) (S V : Int)
theorem rvalue_any (h : Est 75 w g x lo hi any S V) :
    Calls Try.prog 48 #[.pointer (some ⟨g, 0, none⟩)] w fun e w' => e = .returned (.int .i64 x) ∧ w = w' := by
  have c0 := h.blk.cell (i := 0) rfl
  go_enter Try.func48, Try.ntmps48
  go_wp2
  go_ret
  exact ⟨rfl, rfl⟩
theorem rvalue_nil :
    Calls Try.prog 48 #[.pointer none] w fun e w' => e = .returned (.int .i64 0) ∧ w = w' := by
  go_enter Try.func48, Try.ntmps48
  go_wp2
  go_ret
  exact ⟨rfl, rfl⟩
end
theorem rnew_yes (w : World) (first lo hi : Int) (h : takes first lo hi = true) :
    Calls Try.prog 27 #[.int .i64 first, .int .i64 lo, .int .i64 hi] w fun e w' => e = .returned (.tuple #[.pointer (some ⟨w.heap.size, 0, none⟩), .int .i64 0]) ∧ Est 75 w' w.heap.size first lo hi false 0 0 ∧ Turn [] w w' ∧ w.heap.size < w'.heap.size := by
  have hg := takes_good h
  obtain ⟨h1, h2, h3, h4⟩ := takes_iff.1 h
  have d1 : decide (lo < 1) = false := by simp; omega
  have d2 : decide (first < lo) = false := by simp; omega
  have d3 : decide (hi < first) = false := by simp; omega
  have d4 : decide (1048576 < hi) = false := by simp; omega
  have hA := arr_new w 75 (estC first lo hi false 0 0)
  have hT : Turn [] w (w.alloc (.cells (estC first lo hi false 0 0).toArray 75)) := (Turn.refl _ _).alloc _
  have HA := Lib.hid (And.intro hA hT)
  have HG := Lib.hid hg
  clear h hg h1 h2 h3 h4 hA hT
  go_enter Try.func27, Try.ntmps27
  go_wp2
  go_ret2

  exact ⟨rfl, ⟨HA.out.1, HG.out⟩, HA.out.2, by simp⟩
theorem rnew_no (w : World) (first lo hi : Int) (h : takes first lo hi = false) :
    Calls Try.prog 27 #[.int .i64 first, .int .i64 lo, .int .i64 hi] w fun e w' => e = .returned (.tuple #[.pointer none, .int .i64 1]) ∧ w = w' := by
  by_cases h1 : 1 ≤ lo
  · have d1 : decide (lo < 1) = false := by simp; omega
    by_cases h2 : lo ≤ first
    · have d2 : decide (first < lo) = false := by simp; omega
      by_cases h3 : first ≤ hi
      · have d3 : decide (hi < first) = false := by simp; omega
        by_cases h4 : hi ≤ 1048576
        · exfalso
          have := takes_iff.2 ⟨h1, h2, h3, h4⟩
          rw [this] at h
          cases h
        · have d4 : decide (1048576 < hi) = true := by simp; omega
          clear h h1 h2 h3 h4
          go_enter Try.func27, Try.ntmps27
          go_wp2
          go_ret2
          exact ⟨rfl, rfl⟩
      · have d3 : decide (hi < first) = true := by simp; omega
        clear h h1 h2 h3
        go_enter Try.func27, Try.ntmps27
        go_wp2
        go_ret2
        exact ⟨rfl, rfl⟩
    · have d2 : decide (first < lo) = true := by simp; omega
      clear h h1 h2
      go_enter Try.func27, Try.ntmps27
      go_wp2
      go_ret2
      exact ⟨rfl, rfl⟩
  · have d1 : decide (lo < 1) = true := by simp; omega
    clear h h1
    go_enter Try.func27, Try.ntmps27
    go_wp2
    go_ret2
    exact ⟨rfl, rfl⟩

theorem rback_any (w : World) (g : Nat) (x lo hi : Int) (any : Bool) (S V : Int) (h : Est 75 w g x lo hi any S V) :
    Calls Try.prog 64 #[.pointer (some ⟨g, 0, none⟩)] w fun e w' => e = .returned (.tuple #[]) ∧ Est 75 w' g (min (2 * x) hi) lo hi any S V ∧ Turn [g] w w' := by
  obtain ⟨a1, a2, a3, a4, a5, a6, a7, a8⟩ := h.good
  have hlt := h.lt
  have c0 := h.blk.cell (i := 0) rfl
  have c2 := h.blk.cell (i := 2) rfl
  have f0 := h.blk.free 0
  have hT : Turn [g] w (w.setCell ⟨g, 0, none⟩ (.int .i64 (min (2 * x) hi))) := (Turn.refl _ _).setCell (by simp) _
  have H := Lib.hid (And.intro (Est.set h.blk (min (2 * x) hi)) (And.intro h.good.back hT))
  clear h hT
  go_enter Try.func64, Try.ntmps64
  go_upto_region 1 with fail
  go_region
  go_wp2
  go_end0
  exact ⟨rfl, ⟨H.out.1, H.out.2.1⟩, H.out.2.2.drew⟩

theorem rsample_neg (w : World) (g : Nat) (t : Int) (ht : t < 0) :
    Calls Try.prog 53 #[.pointer (some ⟨g, 0, none⟩), .int .i64 t] w fun e w' => e = .returned (.int .i64 1) ∧ w = w' := by
  have h1 : decide (t < 0) = true := by simpa using ht
  go_enter Try.func53, Try.ntmps53
  go_wp2
  go_ret
  exact ⟨rfl, rfl⟩

set_option maxHeartbeats 1600000 in
theorem rsample_first (w : World) (g : Nat) (x lo hi : Int) (S0 V0 t0 : Int) (h : Est 75 w g x lo hi false S0 V0) (ht : 0 ≤ t0) :
    Calls Try.prog 53 #[.pointer (some ⟨g, 0, none⟩), .int .i64 t0] w fun e w' => e = .returned (.int .i64 0) ∧
      Est 75 w' g (nX (nS false S0 (min t0 1048576)) (nV false S0 V0 (min t0 1048576)) lo hi) lo hi true (nS false S0 (min t0 1048576)) (nV false S0 V0 (min t0 1048576)) ∧ Turn [g] w w' := by
  have h1 : decide (t0 < 0) = false := by simp; omega
  have hg := h.good.sample (t := min t0 1048576) (by omega) (by omega)
  obtain ⟨t, htt⟩ : ∃ t, t = min t0 1048576 := ⟨_, rfl⟩
  have ht1 : 0 ≤ t ∧ t ≤ 1048576 := by omega
  have hlt := h.lt
  have c0 := h.blk.cell (i := 0) rfl
  have c1 := h.blk.cell (i := 1) rfl
  have c2 := h.blk.cell (i := 2) rfl
  have c3 := h.blk.cell (i := 3) rfl
  have c4 := h.blk.cell (i := 4) rfl
  have c5 := h.blk.cell (i := 5) rfl
  have f0 := h.blk.free 0
  have f3 := h.blk.free 3
  have f4 := h.blk.free 4
  have f5 := h.blk.free 5
  rw [← htt] at hg ⊢
  have H := Lib.hid (And.intro hg h.blk)
  have HTT := Lib.hid htt
  clear h htt hg
  go_enter Try.func53, Try.ntmps53
  go_upto_region 6 with fail
  rw [← HTT.out]
  go_upto_region 15 with fail
  go_region
  go_upto_region 16 with fail
  go_region
  go_wp2
  go_ret
  have hX : nX (nS false S0 t) (nV false S0 V0 t) lo hi = min (max (t + max 1 (2 * t)) lo) hi := by simp only [nX, nS, nV, lim, Bool.false_eq_true, if_false]; omega
  have hA := Est.set (Est.set (estC_V (estC_S (estC_any H.out.2 true) (8 * t)) (2 * t)) (t + max 1 (2 * t))) (min (max (t + max 1 (2 * t)) lo) hi)
  refine ⟨rfl, ⟨?_, H.out.1⟩, (((((Turn.refl _ _).setCell (by simp) _).setCell (by simp) _).setCell (by simp) _).setCell (by simp) _ |>.setCell (by simp) _).drew.drew⟩
  rw [hX]
  exact hA

end Go.Proofs.Ytkgfogepbclhkaa
