/-
  The reference's rto: Sample behind the first.
-/
import Derived.Test.YtkgfogepbclhkaaRtRef
namespace Go.Proofs.Ytkgfogepbclhkaa
open Go.RowKit
set_option linter.unusedVariables false

set_option maxHeartbeats 1600000 in
theorem rsample_next (w : World) (g : Nat) (x lo hi : Int) (S0 V0 t0 : Int) (h : Est 75 w g x lo hi true S0 V0) (ht : 0 ≤ t0) :
    Calls Try.prog 53 #[.pointer (some ⟨g, 0, none⟩), .int .i64 t0] w fun e w' => e = .returned (.int .i64 0) ∧
      Est 75 w' g (nX (nS true S0 (min t0 1048576)) (nV true S0 V0 (min t0 1048576)) lo hi) lo hi true (nS true S0 (min t0 1048576)) (nV true S0 V0 (min t0 1048576)) ∧ Turn [g] w w' := by
  have h1 : decide (t0 < 0) = false := by simp; omega
  have hg := h.good.sample (t := min t0 1048576) (by omega) (by omega)
  obtain ⟨a1, a2, a3, a4, a5, a6, a7, a8⟩ := h.good
  obtain ⟨t, htt⟩ : ∃ t, t = min t0 1048576 := ⟨_, rfl⟩
  have ht1 : 0 ≤ t ∧ t ≤ 1048576 := by omega
  have hlt := h.lt
  have c0 := h.blk.cell (i := 0) rfl
  have c1 := h.blk.cell (i := 1) rfl
  have c2 := h.blk.cell (i := 2) rfl
  have c3 := h.blk.cell (i := 3) rfl
  have c4 := h.blk.cell (i := 4) rfl
  have c5 := h.blk.cell (i := 5) rfl
  have f0 := h.blk.free 0
  have f3 := h.blk.free 3
  have f4 := h.blk.free 4
  have f5 := h.blk.free 5
  rw [← htt] at hg ⊢
  have H := Lib.hid (And.intro hg h.blk)
  have HTT := Lib.hid htt
  clear h htt hg
  by_cases hd : S0 / 8 - t < 0
  · have h2 : decide (S0 / 8 - t < 0) = true := by simpa using hd
    have hs1 : 0 ≤ V0 - V0 / 4 + -(S0 / 8 - t) ∧ V0 - V0 / 4 + -(S0 / 8 - t) ≤ 4194307 := by omega
    have hs2 : 0 ≤ S0 - S0 / 8 + t ∧ S0 - S0 / 8 + t ≤ 8388615 := by omega
    clear a2 a3
    go_enter Try.func53, Try.ntmps53
    go_upto_region 6 with fail
    rw [← HTT.out]
    go_upto_region 13 with fail
    go_region
    go_upto_region 14 with fail
    go_region
    go_upto_region 15 with fail
    go_region
    go_upto_region 16 with fail
    go_region
    go_wp2
    go_ret
    have e1 : nS true S0 t = S0 - S0 / 8 + t := by simp only [nS, if_true]
    have e2 : nV true S0 V0 t = V0 - V0 / 4 + -(S0 / 8 - t) := by simp only [nV, if_true]; omega
    have hA := Est.set (Est.set (estC_S (estC_V H.out.2 (V0 - V0 / 4 + -(S0 / 8 - t))) (S0 - S0 / 8 + t)) ((S0 - S0 / 8 + t) / 8 + max 1 (V0 - V0 / 4 + -(S0 / 8 - t)))) (min (max ((S0 - S0 / 8 + t) / 8 + max 1 (V0 - V0 / 4 + -(S0 / 8 - t))) lo) hi)
    refine ⟨rfl, ⟨?_, H.out.1⟩, ((((Turn.refl _ _).setCell (by simp) _).setCell (by simp) _).setCell (by simp) _ |>.setCell (by simp) _).drew.drew.drew.drew⟩
    rw [e1, e2]
    exact hA
  · have h2 : decide (S0 / 8 - t < 0) = false := by simpa using hd
    have hs1 : 0 ≤ V0 - V0 / 4 + (S0 / 8 - t) ∧ V0 - V0 / 4 + (S0 / 8 - t) ≤ 4194307 := by omega
    have hs2 : 0 ≤ S0 - S0 / 8 + t ∧ S0 - S0 / 8 + t ≤ 8388615 := by omega
    clear a2 a3
    go_enter Try.func53, Try.ntmps53
    go_upto_region 6 with fail
    rw [← HTT.out]
    go_upto_region 13 with fail
    go_region
    go_upto_region 14 with fail
    go_region
    go_upto_region 15 with fail
    go_region
    go_upto_region 16 with fail
    go_region
    go_wp2
    go_ret
    have e1 : nS true S0 t = S0 - S0 / 8 + t := by simp only [nS, if_true]
    have e2 : nV true S0 V0 t = V0 - V0 / 4 + (S0 / 8 - t) := by simp only [nV, if_true]; omega
    have hA := Est.set (Est.set (estC_S (estC_V H.out.2 (V0 - V0 / 4 + (S0 / 8 - t))) (S0 - S0 / 8 + t)) ((S0 - S0 / 8 + t) / 8 + max 1 (V0 - V0 / 4 + (S0 / 8 - t)))) (min (max ((S0 - S0 / 8 + t) / 8 + max 1 (V0 - V0 / 4 + (S0 / 8 - t))) lo) hi)
    refine ⟨rfl, ⟨?_, H.out.1⟩, ((((Turn.refl _ _).setCell (by simp) _).setCell (by simp) _).setCell (by simp) _ |>.setCell (by simp) _).drew.drew.drew.drew⟩
    rw [e1, e2]
    exact hA

theorem rsample_any (w : World) (g : Nat) (x lo hi : Int) (any : Bool) (S0 V0 t0 : Int) (h : Est 75 w g x lo hi any S0 V0) (ht : 0 ≤ t0) :
    Calls Try.prog 53 #[.pointer (some ⟨g, 0, none⟩), .int .i64 t0] w fun e w' => e = .returned (.int .i64 0) ∧
      Est 75 w' g (nX (nS any S0 (min t0 1048576)) (nV any S0 V0 (min t0 1048576)) lo hi) lo hi true (nS any S0 (min t0 1048576)) (nV any S0 V0 (min t0 1048576)) ∧ Turn [g] w w' := by
  cases any
  · exact rsample_first w g x lo hi S0 V0 t0 h ht
  · exact rsample_next w g x lo hi S0 V0 t0 h ht
end Go.Proofs.Ytkgfogepbclhkaa
