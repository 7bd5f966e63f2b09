/-
  The program's window: New, Size, Threshold, lower, Fast, Timeout.
-/
import Derived.Test.YtkgfogepbclhkaaChecked
import Derived.Test.YtkgfogepbclhkaaWnSt
import Derived.Handy
import Derived.Outline
import Derived.StillTailTactics
import Derived.RegionTactic
import Derived.Lib.MinMax
import Derived.Deep.Cut
namespace Go.Proofs.Ytkgfogepbclhkaa
open Go.RowKit
set_option linter.unusedVariables false

theorem wnew_yes (w : World) (mtu most : Int) (c : Nat) (h : wtakes mtu most = true) :
    Calls Try.prog 26 #[.int .i64 mtu, .int .i64 most] w fun e w' => e = .returned (.tuple #[.pointer (some ⟨w.heap.size, 0, none⟩), .int .i64 0]) ∧ Wn 73 w' w.heap.size mtu most (2 * mtu) most 0 c ∧ Turn [] w w' ∧ w.heap.size < w'.heap.size := by
  have hg := wtakes_good h c
  obtain ⟨h1, h2, h3, h4⟩ := wtakes_iff.1 h
  have d1 : decide (mtu < 128) = false := by simp; omega
  have d2 : decide (1500 < mtu) = false := by simp; omega
  have d3 : decide (most < 4 * mtu) = false := by simp; omega
  have d4 : decide (16777216 < most) = false := by simp; omega
  have hA := arr_new w 73 (wnC mtu most (2 * mtu) most 0)
  have hT : Turn [] w (w.alloc (.cells (wnC mtu most (2 * mtu) most 0).toArray 73)) := (Turn.refl _ _).alloc _
  have HA := Lib.hid (And.intro hA hT)
  have HG := Lib.hid hg
  clear h hg h3 h4 hA hT
  go_enter Try.func26, Try.ntmps26
  go_wp2
  go_ret2

  exact ⟨rfl, ⟨HA.out.1, HG.out⟩, HA.out.2, by simp⟩
theorem wnew_no (w : World) (mtu most : Int) (h : wtakes mtu most = false) :
    Calls Try.prog 26 #[.int .i64 mtu, .int .i64 most] w fun e w' => e = .returned (.tuple #[.pointer none, .int .i64 1]) ∧ w = w' := by
  by_cases h1 : 128 ≤ mtu
  · have d1 : decide (mtu < 128) = false := by simp; omega
    by_cases h2 : mtu ≤ 1500
    · have d2 : decide (1500 < mtu) = false := by simp; omega
      by_cases h3 : 4 * mtu ≤ most
      · have d3 : decide (most < 4 * mtu) = false := by simp; omega
        by_cases h4 : most ≤ 16777216
        · exfalso
          have := wtakes_iff.2 ⟨h1, h2, h3, h4⟩
          rw [this] at h
          cases h
        · have d4 : decide (16777216 < most) = true := by simp; omega
          clear h h3 h4
          go_enter Try.func26, Try.ntmps26
          go_wp2
          go_ret2
          exact ⟨rfl, rfl⟩
      · have d3 : decide (most < 4 * mtu) = true := by simp; omega
        clear h h3
        go_enter Try.func26, Try.ntmps26
        go_wp2
        go_ret2
        exact ⟨rfl, rfl⟩
    · have d2 : decide (1500 < mtu) = true := by simp; omega
      clear h h1 h2
      go_enter Try.func26, Try.ntmps26
      go_wp2
      go_ret2
      exact ⟨rfl, rfl⟩
  · have d1 : decide (mtu < 128) = true := by simp; omega
    clear h h1
    go_enter Try.func26, Try.ntmps26
    go_wp2
    go_ret2
    exact ⟨rfl, rfl⟩

theorem wsize_nil (w : World) :
    Calls Try.prog 46 #[.pointer none] w fun e w' => e = .returned (.int .i64 0) ∧ w = w' := by
  go_enter Try.func46, Try.ntmps46
  go_wp2
  go_ret
  exact ⟨rfl, rfl⟩
theorem wfast_nil (w : World) :
    Calls Try.prog 52 #[.pointer none] w fun e w' => e = .returned (.tuple #[]) ∧ w = w' := by
  go_enter Try.func52, Try.ntmps52
  go_wp2
  exact bodyPost_ret (results_none rfl _ _ _) rfl ⟨rfl, rfl⟩
theorem wtimeout_nil (w : World) :
    Calls Try.prog 44 #[.pointer none] w fun e w' => e = .returned (.tuple #[]) ∧ w = w' := by
  go_enter Try.func44, Try.ntmps44
  go_wp2
  exact bodyPost_ret (results_none rfl _ _ _) rfl ⟨rfl, rfl⟩
theorem wacked_nil (w : World) (n : Int) (full : Bool) :
    Calls Try.prog 51 #[.pointer none, .int .i64 n, .bool full] w fun e w' => e = .returned (.tuple #[]) ∧ w = w' := by
  go_enter Try.func51, Try.ntmps51
  go_wp2
  exact bodyPost_ret (results_none rfl _ _ _) rfl ⟨rfl, rfl⟩

section
variable (w : World) (g : Nat) (mtu most size thr part : Int) (c : Nat)
theorem wsize_any (h : Wn 73 w g mtu most size thr part c) :
    Calls Try.prog 46 #[.pointer (some ⟨g, 0, none⟩)] w fun e w' => e = .returned (.int .i64 size) ∧ w = w' := by
  have c0 := h.blk.cell (i := 2) rfl
  go_enter Try.func46, Try.ntmps46
  go_wp2
  go_ret
  exact ⟨rfl, rfl⟩
theorem wlower_any (h : Wn 73 w g mtu most size thr part c) :
    Calls Try.prog 58 #[.pointer (some ⟨g, 0, none⟩)] w fun e w' => e = .returned (.tuple #[]) ∧ Arr w' g 73 (wnC mtu most size (wT mtu size) 0) ∧ Turn [g] w w' := by
  obtain ⟨a1, a2, a3, a4, a5, a6, a7, a8, a9, a10⟩ := h.good
  have hlt := h.lt
  have c0 := h.blk.cell (i := 0) rfl
  have c2 := h.blk.cell (i := 2) rfl
  have c3 := h.blk.cell (i := 3) rfl
  have c4 := h.blk.cell (i := 4) rfl
  have f3 := h.blk.free 3
  have f4 := h.blk.free 4
  have hA := wnC_part (wnC_thr h.blk (max (size / 2) (4 * mtu))) 0
  have hT : Turn [g] w ((w.setCell ⟨g, 3, none⟩ (.int .i64 (max (size / 2) (4 * mtu)))).setCell ⟨g, 4, none⟩ (.int .i64 0)) := ((Turn.refl _ _).setCell (by simp) _).setCell (by simp) _
  have HA := Lib.hid (And.intro hA hT)
  clear hA hT h
  go_enter Try.func58, Try.ntmps58
  go_upto_region 0 with fail
  go_region
  go_wp2
  go_end0
  exact ⟨rfl, HA.out.1, HA.out.2.drew⟩
theorem wfast_any (h : Wn 73 w g mtu most size thr part c) (c' : Nat) :
    Calls Try.prog 52 #[.pointer (some ⟨g, 0, none⟩)] w fun e w' => e = .returned (.tuple #[]) ∧ Wn 73 w' g mtu most (min size (wT mtu size)) (wT mtu size) 0 c' ∧ Turn [g] w w' := by
  have hl := wlower_any w g mtu most size thr part c h
  have HG := Lib.hid (h.good.fast c')
  clear h
  generalize wT mtu size = thr' at *
  go_enter Try.func52, Try.ntmps52
  go_wp2_with fail
  refine hl.mono ?_
  rintro e w1 ⟨rfl, hB, hT1⟩
  have hlt := hB.lt
  have c2 := hB.cell (i := 2) rfl
  have c3 := hB.cell (i := 3) rfl
  have f2 := hB.free 2
  have HA := Lib.hid (And.intro (wnC_size hB (min size thr')) (hT1.setCell (p := ⟨g, 2, none⟩) (by simp) (.int .i64 (min size thr'))))
  clear hl hB hT1
  go_upto_region 2 with fail
  go_region
  go_wp2
  go_end0
  exact ⟨rfl, ⟨HA.out.1, HG.out⟩, HA.out.2.drew⟩
theorem wtimeout_any (h : Wn 73 w g mtu most size thr part c) (c' : Nat) :
    Calls Try.prog 44 #[.pointer (some ⟨g, 0, none⟩)] w fun e w' => e = .returned (.tuple #[]) ∧ Wn 73 w' g mtu most mtu (wT mtu size) 0 c' ∧ Turn [g] w w' := by
  have hl := wlower_any w g mtu most size thr part c h
  have HG := Lib.hid (h.good.timeout c')
  clear h
  generalize wT mtu size = thr' at *
  go_enter Try.func44, Try.ntmps44
  go_wp2_with fail
  refine hl.mono ?_
  rintro e w1 ⟨rfl, hB, hT1⟩
  have hlt := hB.lt
  have c0 := hB.cell (i := 0) rfl
  have c2 := hB.cell (i := 2) rfl
  have f2 := hB.free 2
  have HA := Lib.hid (And.intro (wnC_size hB mtu) (hT1.setCell (p := ⟨g, 2, none⟩) (by simp) (.int .i64 mtu)))
  clear hl hB hT1
  go_wp2
  go_end0
  exact ⟨rfl, ⟨HA.out.1, HG.out⟩, HA.out.2⟩
end
end Go.Proofs.Ytkgfogepbclhkaa
