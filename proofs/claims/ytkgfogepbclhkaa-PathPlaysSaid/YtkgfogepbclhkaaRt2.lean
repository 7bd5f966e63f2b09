/-
  The program's rto: New, begin, learn.
-/
import Derived.Test.YtkgfogepbclhkaaRt1
import Derived.Deep.Cut
namespace Go.Proofs.Ytkgfogepbclhkaa
open Go.RowKit
set_option linter.unusedVariables false

/-- The estimator behind a store into one of its cells. -/
theorem Est.set {T : TypeId} {w : World} {g : Nat} {x lo hi : Int} {any : Bool} {S V : Int} (h : Arr w g T (estC x lo hi any S V)) (x' : Int) : Arr (w.setCell ⟨g, 0, none⟩ (.int .i64 x')) g T (estC x' lo hi any S V) := h.set 0 _
section
variable {T : TypeId} {w : World} {g : Nat} {x lo hi : Int} {any : Bool} {S V : Int} (h : Arr w g T (estC x lo hi any S V))
include h
theorem estC_any (b : Bool) : Arr (w.setCell ⟨g, 3, none⟩ (.bool b)) g T (estC x lo hi b S V) := h.set 3 _
theorem estC_S (s : Int) : Arr (w.setCell ⟨g, 4, none⟩ (.int .i64 s)) g T (estC x lo hi any s V) := h.set 4 _
theorem estC_V (v : Int) : Arr (w.setCell ⟨g, 5, none⟩ (.int .i64 v)) g T (estC x lo hi any S v) := h.set 5 _
end

theorem begin_any (w : World) (g : Nat) (x lo hi : Int) (any : Bool) (S V t : Int) (h : Arr w g 71 (estC x lo hi any S V)) (h0 : 0 ≤ t) (h1 : t ≤ 1048576) :
    Calls Try.prog 62 #[.pointer (some ⟨g, 0, none⟩), .int .i64 t] w fun e w' => e = .returned (.tuple #[]) ∧ Arr w' g 71 (estC x lo hi true (8 * t) (2 * t)) ∧ Turn [g] w w' := by
  have hlt := h.lt
  have c3 := h.cell (i := 3) rfl
  have c4 := h.cell (i := 4) rfl
  have c5 := h.cell (i := 5) rfl
  have f3 := h.free 3
  have f4 := h.free 4
  have f5 := h.free 5
  have e1 : 4 * t / 2 = 2 * t := by omega
  have hA := estC_V (estC_S (estC_any h true) (8 * t)) (2 * t)
  have hT : Turn [g] w (((w.setCell ⟨g, 3, none⟩ (.bool true)).setCell ⟨g, 4, none⟩ (.int .i64 (8 * t))).setCell ⟨g, 5, none⟩ (.int .i64 (2 * t))) := (((Turn.refl _ _).setCell (by simp) _).setCell (by simp) _).setCell (by simp) _
  have HA := Lib.hid (And.intro hA hT)
  clear hA hT h
  go_enter Try.func62, Try.ntmps62
  go_wp2
  go_end0
  exact ⟨rfl, HA.out⟩
theorem learn_any (w : World) (g : Nat) (x lo hi : Int) (any : Bool) (S V t : Int) (h : Est 71 w g x lo hi true S V) (h0 : 0 ≤ t) (h1 : t ≤ 1048576) :
    Calls Try.prog 61 #[.pointer (some ⟨g, 0, none⟩), .int .i64 t] w fun e w' => e = .returned (.tuple #[]) ∧ Arr w' g 71 (estC x lo hi true (nS true S t) (nV true S V t)) ∧ Turn [g] w w' := by
  obtain ⟨a1, a2, a3, a4, a5, a6, a7, a8⟩ := h.good
  replace h := h.blk
  have hlt := h.lt
  have c4 := h.cell (i := 4) rfl
  have c5 := h.cell (i := 5) rfl
  have f4 := h.free 4
  have f5 := h.free 5
  have hd := distance_any (S / 8) t w (by omega) (by omega)
  obtain ⟨d, hd'⟩ : ∃ d, d = max (S / 8) t - min (S / 8) t := ⟨_, rfl⟩
  have hdb : 0 ≤ d ∧ d ≤ 1048576 := by omega
  rw [← hd'] at hd
  have HD := Lib.hid hd'
  clear hd'
  go_enter Try.func61, Try.ntmps61
  go_wp2_with fail
  refine hd.mono ?_
  rintro e w' ⟨rfl, rfl⟩
  clear hd
  go_upto_region 1 with fail
  go_region
  go_upto_region 2 with fail
  go_region
  go_wp2
  go_end0
  have e1 : V + (d - V / 4) = nV true S V t := by rw [HD.out]; simp only [nV, if_true]; omega
  have e2 : S + (t - S / 8) = nS true S t := by simp only [nS, if_true]; omega
  have hA : Arr ((w.setCell ⟨g, 5, none⟩ (.int .i64 (V + (d - V / 4)))).setCell ⟨g, 4, none⟩ (.int .i64 (S + (t - S / 8)))) g 71 (estC x lo hi true (nS true S t) (nV true S V t)) := by
    rw [← e1, ← e2]
    exact estC_S (estC_V h (V + (d - V / 4))) (S + (t - S / 8))
  have hT : Turn [g] w ((w.setCell ⟨g, 5, none⟩ (.int .i64 (V + (d - V / 4)))).setCell ⟨g, 4, none⟩ (.int .i64 (S + (t - S / 8)))) := ((Turn.refl _ _).setCell (by simp) _).setCell (by simp) _
  exact ⟨rfl, hA, hT.drew.drew⟩

theorem back_nil (w : World) :
    Calls Try.prog 59 #[.pointer none] w fun e w' => e = .returned (.tuple #[]) ∧ w = w' := by
  go_enter Try.func59, Try.ntmps59
  go_wp2
  exact bodyPost_ret (results_none rfl _ _ _) rfl ⟨rfl, rfl⟩
end Go.Proofs.Ytkgfogepbclhkaa
