/-
  The reference's window: New, Size, Threshold, Fast, Timeout, Acked.
-/
import Derived.Test.YtkgfogepbclhkaaChecked
import Derived.Test.YtkgfogepbclhkaaWnSt
import Derived.Handy
import Derived.Outline
import Derived.StillTailTactics
import Derived.RegionTactic
import Derived.Lib.MinMax
import Derived.Deep.Cut
namespace Go.Proofs.Ytkgfogepbclhkaa
open Go.RowKit
set_option linter.unusedVariables false

theorem rwnew_yes (w : World) (mtu most : Int) (c : Nat) (h : wtakes mtu most = true) :
    Calls Try.prog 28 #[.int .i64 mtu, .int .i64 most] w fun e w' => e = .returned (.tuple #[.pointer (some ⟨w.heap.size, 0, none⟩), .int .i64 0]) ∧ Wn 77 w' w.heap.size mtu most (2 * mtu) most 0 c ∧ Turn [] w w' ∧ w.heap.size < w'.heap.size := by
  have hg := wtakes_good h c
  obtain ⟨h1, h2, h3, h4⟩ := wtakes_iff.1 h
  have d1 : decide (mtu < 128) = false := by simp; omega
  have d2 : decide (1500 < mtu) = false := by simp; omega
  have d3 : decide (most < 4 * mtu) = false := by simp; omega
  have d4 : decide (16777216 < most) = false := by simp; omega
  have hA := arr_new w 77 (wnC mtu most (2 * mtu) most 0)
  have hT : Turn [] w (w.alloc (.cells (wnC mtu most (2 * mtu) most 0).toArray 77)) := (Turn.refl _ _).alloc _
  have HA := Lib.hid (And.intro hA hT)
  have HG := Lib.hid hg
  clear h hg h3 h4 hA hT
  go_enter Try.func28, Try.ntmps28
  go_wp2
  go_ret2

  exact ⟨rfl, ⟨HA.out.1, HG.out⟩, HA.out.2, by simp⟩
theorem rwnew_no (w : World) (mtu most : Int) (h : wtakes mtu most = false) :
    Calls Try.prog 28 #[.int .i64 mtu, .int .i64 most] w fun e w' => e = .returned (.tuple #[.pointer none, .int .i64 1]) ∧ w = w' := by
  by_cases h1 : 128 ≤ mtu
  · have d1 : decide (mtu < 128) = false := by simp; omega
    by_cases h2 : mtu ≤ 1500
    · have d2 : decide (1500 < mtu) = false := by simp; omega
      by_cases h3 : 4 * mtu ≤ most
      · have d3 : decide (most < 4 * mtu) = false := by simp; omega
        by_cases h4 : most ≤ 16777216
        · exfalso
          have := wtakes_iff.2 ⟨h1, h2, h3, h4⟩
          rw [this] at h
          cases h
        · have d4 : decide (16777216 < most) = true := by simp; omega
          clear h h3 h4
          go_enter Try.func28, Try.ntmps28
          go_wp2
          go_ret2
          exact ⟨rfl, rfl⟩
      · have d3 : decide (most < 4 * mtu) = true := by simp; omega
        clear h h3
        go_enter Try.func28, Try.ntmps28
        go_wp2
        go_ret2
        exact ⟨rfl, rfl⟩
    · have d2 : decide (1500 < mtu) = true := by simp; omega
      clear h h1 h2
      go_enter Try.func28, Try.ntmps28
      go_wp2
      go_ret2
      exact ⟨rfl, rfl⟩
  · have d1 : decide (mtu < 128) = true := by simp; omega
    clear h h1
    go_enter Try.func28, Try.ntmps28
    go_wp2
    go_ret2
    exact ⟨rfl, rfl⟩

theorem rwsize_nil (w : World) :
    Calls Try.prog 49 #[.pointer none] w fun e w' => e = .returned (.int .i64 0) ∧ w = w' := by
  go_enter Try.func49, Try.ntmps49
  go_wp2
  go_ret
  exact ⟨rfl, rfl⟩
theorem rwfast_nil (w : World) :
    Calls Try.prog 55 #[.pointer none] w fun e w' => e = .returned (.tuple #[]) ∧ w = w' := by
  go_enter Try.func55, Try.ntmps55
  go_wp2
  exact bodyPost_ret (results_none rfl _ _ _) rfl ⟨rfl, rfl⟩
theorem rwtimeout_nil (w : World) :
    Calls Try.prog 56 #[.pointer none] w fun e w' => e = .returned (.tuple #[]) ∧ w = w' := by
  go_enter Try.func56, Try.ntmps56
  go_wp2
  exact bodyPost_ret (results_none rfl _ _ _) rfl ⟨rfl, rfl⟩
theorem rwacked_nil (w : World) (n : Int) (full : Bool) :
    Calls Try.prog 54 #[.pointer none, .int .i64 n, .bool full] w fun e w' => e = .returned (.tuple #[]) ∧ w = w' := by
  go_enter Try.func54, Try.ntmps54
  go_wp2
  exact bodyPost_ret (results_none rfl _ _ _) rfl ⟨rfl, rfl⟩

section
variable (w : World) (g : Nat) (mtu most size thr part : Int) (c : Nat)
theorem rwsize_any (h : Wn 77 w g mtu most size thr part c) :
    Calls Try.prog 49 #[.pointer (some ⟨g, 0, none⟩)] w fun e w' => e = .returned (.int .i64 size) ∧ w = w' := by
  have c0 := h.blk.cell (i := 2) rfl
  go_enter Try.func49, Try.ntmps49
  go_wp2
  go_ret
  exact ⟨rfl, rfl⟩
theorem rwfast_any (h : Wn 77 w g mtu most size thr part c) (c' : Nat) :
    Calls Try.prog 55 #[.pointer (some ⟨g, 0, none⟩)] w fun e w' => e = .returned (.tuple #[]) ∧ Wn 77 w' g mtu most (min size (wT mtu size)) (wT mtu size) 0 c' ∧ Turn [g] w w' := by
  have HG := Lib.hid (h.good.fast c')
  obtain ⟨a1, a2, a3, a4, a5, a6, a7, a8, a9, a10⟩ := h.good
  have hlt := h.lt
  have c0 := h.blk.cell (i := 0) rfl
  have c1 := h.blk.cell (i := 1) rfl
  have c2 := h.blk.cell (i := 2) rfl
  have c3 := h.blk.cell (i := 3) rfl
  have c4 := h.blk.cell (i := 4) rfl
  have f2 := h.blk.free 2
  have f3 := h.blk.free 3
  have f4 := h.blk.free 4
  have HA := Lib.hid (And.intro (wnC_part (wnC_size (wnC_thr h.blk (wT mtu size)) (min size (wT mtu size))) 0) ((((Turn.refl [g] w).setCell (p := ⟨g, 3, none⟩) (by simp) (.int .i64 (wT mtu size))).setCell (p := ⟨g, 2, none⟩) (by simp) (.int .i64 (min size (wT mtu size)))).setCell (p := ⟨g, 4, none⟩) (by simp) (.int .i64 0)))
  have ht : wT mtu size = max (size / 2) (4 * mtu) := rfl
  rw [ht] at HA HG ⊢
  clear h ht
  go_enter Try.func55, Try.ntmps55
  go_upto_region 1 with fail
  go_region
  go_upto_region 2 with fail
  go_region
  go_wp2
  go_end0
  exact ⟨rfl, ⟨HA.out.1, HG.out⟩, HA.out.2.drew.drew⟩
theorem rwtimeout_any (h : Wn 77 w g mtu most size thr part c) (c' : Nat) :
    Calls Try.prog 56 #[.pointer (some ⟨g, 0, none⟩)] w fun e w' => e = .returned (.tuple #[]) ∧ Wn 77 w' g mtu most mtu (wT mtu size) 0 c' ∧ Turn [g] w w' := by
  have HG := Lib.hid (h.good.timeout c')
  obtain ⟨a1, a2, a3, a4, a5, a6, a7, a8, a9, a10⟩ := h.good
  have hlt := h.lt
  have c0 := h.blk.cell (i := 0) rfl
  have c1 := h.blk.cell (i := 1) rfl
  have c2 := h.blk.cell (i := 2) rfl
  have c3 := h.blk.cell (i := 3) rfl
  have c4 := h.blk.cell (i := 4) rfl
  have f2 := h.blk.free 2
  have f3 := h.blk.free 3
  have f4 := h.blk.free 4
  have HA := Lib.hid (And.intro (wnC_part (wnC_size (wnC_thr h.blk (wT mtu size)) mtu) 0) ((((Turn.refl [g] w).setCell (p := ⟨g, 3, none⟩) (by simp) (.int .i64 (wT mtu size))).setCell (p := ⟨g, 2, none⟩) (by simp) (.int .i64 mtu)).setCell (p := ⟨g, 4, none⟩) (by simp) (.int .i64 0)))
  have ht : wT mtu size = max (size / 2) (4 * mtu) := rfl
  rw [ht] at HA HG ⊢
  clear h ht
  go_enter Try.func56, Try.ntmps56
  go_upto_region 1 with fail
  go_region
  go_wp2
  go_end0
  exact ⟨rfl, ⟨HA.out.1, HG.out⟩, HA.out.2.drew⟩
end

section
variable (w : World) (g : Nat) (mtu most size thr part : Int) (c : Nat)
theorem rwacked_1 (n : Int) (hn : 1 ≤ n) (hc : c ≤ 1073741824) (hs : size ≤ thr) (h : Wn 77 w g mtu most size thr part c) (HG : Hid (WGood mtu most (min size most) thr (part) (c + 1))) :
    Calls Try.prog 54 #[.pointer (some ⟨g, 0, none⟩), .int .i64 n, .bool false] w fun e w' => e = .returned (.tuple #[]) ∧ Wn 77 w' g mtu most (min size most) thr (part) (c + 1) ∧ Turn [g] w w' := by
  obtain ⟨a1, a2, a3, a4, a5, a6, a7, a8, a9, a10⟩ := h.good
  have hlt := h.lt
  have c0 := h.blk.cell (i := 0) rfl
  have c1 := h.blk.cell (i := 1) rfl
  have c2 := h.blk.cell (i := 2) rfl
  have c3 := h.blk.cell (i := 3) rfl
  have c4 := h.blk.cell (i := 4) rfl
  have f2 := h.blk.free 2
  have f3 := h.blk.free 3
  have f4 := h.blk.free 4
  have HA := Lib.hid (And.intro (wnC_size h.blk (min size most)) ((Turn.refl [g] w).setCell (p := ⟨g, 2, none⟩) (by simp) (.int .i64 (min size most))))
  have hd : decide (n < 1) = false := by simp; omega
  have hm1 : -9223372036854775808 ≤ size + min n mtu ∧ size + min n mtu ≤ 9223372036854775807 := by omega
  have hm2 : -9223372036854775808 ≤ part + min n most ∧ part + min n most ≤ 9223372036854775807 := by omega
  have hs' : decide (size ≤ thr) = true := by simpa using hs
  clear h
  go_enter Try.func54, Try.ntmps54
  go_upto_region 1 with fail
  go_region
  go_upto_region 8 with fail
  go_region
  go_wp2
  go_end0
  exact ⟨rfl, ⟨HA.out.1, HG.out⟩, HA.out.2.drew.drew⟩
theorem rwacked_2 (n : Int) (hn : 1 ≤ n) (hc : c ≤ 1073741824) (hs : size ≤ thr) (h : Wn 77 w g mtu most size thr part c) (HG : Hid (WGood mtu most (min (size + min n mtu) most) thr (part) (c + 1))) :
    Calls Try.prog 54 #[.pointer (some ⟨g, 0, none⟩), .int .i64 n, .bool true] w fun e w' => e = .returned (.tuple #[]) ∧ Wn 77 w' g mtu most (min (size + min n mtu) most) thr (part) (c + 1) ∧ Turn [g] w w' := by
  obtain ⟨a1, a2, a3, a4, a5, a6, a7, a8, a9, a10⟩ := h.good
  have hlt := h.lt
  have c0 := h.blk.cell (i := 0) rfl
  have c1 := h.blk.cell (i := 1) rfl
  have c2 := h.blk.cell (i := 2) rfl
  have c3 := h.blk.cell (i := 3) rfl
  have c4 := h.blk.cell (i := 4) rfl
  have f2 := h.blk.free 2
  have f3 := h.blk.free 3
  have f4 := h.blk.free 4
  have HA := Lib.hid (And.intro (wnC_size (wnC_size h.blk (size + min n mtu)) (min (size + min n mtu) most)) (((Turn.refl [g] w).setCell (p := ⟨g, 2, none⟩) (by simp) (.int .i64 (size + min n mtu))).setCell (p := ⟨g, 2, none⟩) (by simp) (.int .i64 (min (size + min n mtu) most))))
  have hd : decide (n < 1) = false := by simp; omega
  have hm1 : -9223372036854775808 ≤ size + min n mtu ∧ size + min n mtu ≤ 9223372036854775807 := by omega
  have hm2 : -9223372036854775808 ≤ part + min n most ∧ part + min n most ≤ 9223372036854775807 := by omega
  have hs' : decide (size ≤ thr) = true := by simpa using hs
  clear h
  go_enter Try.func54, Try.ntmps54
  go_upto_region 1 with fail
  go_region
  go_upto_region 3 with fail
  go_region
  go_upto_region 8 with fail
  go_region
  go_wp2
  go_end0
  exact ⟨rfl, ⟨HA.out.1, HG.out⟩, HA.out.2.drew.drew.drew⟩
theorem rwacked_3 (n : Int) (hn : 1 ≤ n) (hc : c ≤ 1073741824) (hs : ¬ size ≤ thr) (h : Wn 77 w g mtu most size thr part c) (HG : Hid (WGood mtu most (min size most) thr (part + min n most) (c + 1))) :
    Calls Try.prog 54 #[.pointer (some ⟨g, 0, none⟩), .int .i64 n, .bool false] w fun e w' => e = .returned (.tuple #[]) ∧ Wn 77 w' g mtu most (min size most) thr (part + min n most) (c + 1) ∧ Turn [g] w w' := by
  obtain ⟨a1, a2, a3, a4, a5, a6, a7, a8, a9, a10⟩ := h.good
  have hlt := h.lt
  have c0 := h.blk.cell (i := 0) rfl
  have c1 := h.blk.cell (i := 1) rfl
  have c2 := h.blk.cell (i := 2) rfl
  have c3 := h.blk.cell (i := 3) rfl
  have c4 := h.blk.cell (i := 4) rfl
  have f2 := h.blk.free 2
  have f3 := h.blk.free 3
  have f4 := h.blk.free 4
  have HA := Lib.hid (And.intro (wnC_size (wnC_part h.blk (part + min n most)) (min size most)) (((Turn.refl [g] w).setCell (p := ⟨g, 4, none⟩) (by simp) (.int .i64 (part + min n most))).setCell (p := ⟨g, 2, none⟩) (by simp) (.int .i64 (min size most))))
  have hd : decide (n < 1) = false := by simp; omega
  have hm1 : -9223372036854775808 ≤ size + min n mtu ∧ size + min n mtu ≤ 9223372036854775807 := by omega
  have hm2 : -9223372036854775808 ≤ part + min n most ∧ part + min n most ≤ 9223372036854775807 := by omega
  have hs' : decide (size ≤ thr) = false := by simpa using hs
  clear h
  go_enter Try.func54, Try.ntmps54
  go_upto_region 1 with fail
  go_region
  go_upto_region 4 with fail
  go_region
  go_upto_region 5 with fail
  go_region
  go_upto_region 8 with fail
  go_region
  go_wp2
  go_end0
  exact ⟨rfl, ⟨HA.out.1, HG.out⟩, HA.out.2.drew.drew.drew.drew⟩
theorem rwacked_4 (n : Int) (hn : 1 ≤ n) (hc : c ≤ 1073741824) (hs : ¬ size ≤ thr) (hq : ¬ size ≤ part + min n most) (h : Wn 77 w g mtu most size thr part c) (HG : Hid (WGood mtu most (min size most) thr (part + min n most) (c + 1))) :
    Calls Try.prog 54 #[.pointer (some ⟨g, 0, none⟩), .int .i64 n, .bool true] w fun e w' => e = .returned (.tuple #[]) ∧ Wn 77 w' g mtu most (min size most) thr (part + min n most) (c + 1) ∧ Turn [g] w w' := by
  obtain ⟨a1, a2, a3, a4, a5, a6, a7, a8, a9, a10⟩ := h.good
  have hlt := h.lt
  have c0 := h.blk.cell (i := 0) rfl
  have c1 := h.blk.cell (i := 1) rfl
  have c2 := h.blk.cell (i := 2) rfl
  have c3 := h.blk.cell (i := 3) rfl
  have c4 := h.blk.cell (i := 4) rfl
  have f2 := h.blk.free 2
  have f3 := h.blk.free 3
  have f4 := h.blk.free 4
  have HA := Lib.hid (And.intro (wnC_size (wnC_part h.blk (part + min n most)) (min size most)) (((Turn.refl [g] w).setCell (p := ⟨g, 4, none⟩) (by simp) (.int .i64 (part + min n most))).setCell (p := ⟨g, 2, none⟩) (by simp) (.int .i64 (min size most))))
  have hd : decide (n < 1) = false := by simp; omega
  have hm1 : -9223372036854775808 ≤ size + min n mtu ∧ size + min n mtu ≤ 9223372036854775807 := by omega
  have hm2 : -9223372036854775808 ≤ part + min n most ∧ part + min n most ≤ 9223372036854775807 := by omega
  have hs' : decide (size ≤ thr) = false := by simpa using hs
  have hq' : decide (size ≤ part + min n most) = false := by simpa using hq
  clear h
  go_enter Try.func54, Try.ntmps54
  go_upto_region 1 with fail
  go_region
  go_upto_region 4 with fail
  go_region
  go_upto_region 5 with fail
  go_region
  go_upto_region 8 with fail
  go_region
  go_wp2
  go_end0
  exact ⟨rfl, ⟨HA.out.1, HG.out⟩, HA.out.2.drew.drew.drew.drew⟩
theorem rwacked_5 (n : Int) (hn : 1 ≤ n) (hc : c ≤ 1073741824) (hs : ¬ size ≤ thr) (hq : size ≤ part + min n most) (h : Wn 77 w g mtu most size thr part c) (HG : Hid (WGood mtu most (min (size + mtu) most) thr (part + min n most - size) (c + 1))) :
    Calls Try.prog 54 #[.pointer (some ⟨g, 0, none⟩), .int .i64 n, .bool true] w fun e w' => e = .returned (.tuple #[]) ∧ Wn 77 w' g mtu most (min (size + mtu) most) thr (part + min n most - size) (c + 1) ∧ Turn [g] w w' := by
  obtain ⟨a1, a2, a3, a4, a5, a6, a7, a8, a9, a10⟩ := h.good
  have hlt := h.lt
  have c0 := h.blk.cell (i := 0) rfl
  have c1 := h.blk.cell (i := 1) rfl
  have c2 := h.blk.cell (i := 2) rfl
  have c3 := h.blk.cell (i := 3) rfl
  have c4 := h.blk.cell (i := 4) rfl
  have f2 := h.blk.free 2
  have f3 := h.blk.free 3
  have f4 := h.blk.free 4
  have HA := Lib.hid (And.intro (wnC_size (wnC_size (wnC_part (wnC_part h.blk (part + min n most)) (part + min n most - size)) (size + mtu)) (min (size + mtu) most)) (((((Turn.refl [g] w).setCell (p := ⟨g, 4, none⟩) (by simp) (.int .i64 (part + min n most))).setCell (p := ⟨g, 4, none⟩) (by simp) (.int .i64 (part + min n most - size))).setCell (p := ⟨g, 2, none⟩) (by simp) (.int .i64 (size + mtu))).setCell (p := ⟨g, 2, none⟩) (by simp) (.int .i64 (min (size + mtu) most))))
  have hd : decide (n < 1) = false := by simp; omega
  have hm1 : -9223372036854775808 ≤ size + min n mtu ∧ size + min n mtu ≤ 9223372036854775807 := by omega
  have hm2 : -9223372036854775808 ≤ part + min n most ∧ part + min n most ≤ 9223372036854775807 := by omega
  have hs' : decide (size ≤ thr) = false := by simpa using hs
  have hq' : decide (size ≤ part + min n most) = true := by simpa using hq
  clear h
  go_enter Try.func54, Try.ntmps54
  go_upto_region 1 with fail
  go_region
  go_upto_region 4 with fail
  go_region
  go_upto_region 5 with fail
  go_region
  go_upto_region 6 with fail
  go_region
  go_upto_region 7 with fail
  go_region
  go_upto_region 8 with fail
  go_region
  go_wp2
  go_end0
  exact ⟨rfl, ⟨HA.out.1, HG.out⟩, HA.out.2.drew.drew.drew.drew.drew.drew⟩
theorem rwacked_any (n : Int) (full : Bool) (hc : c ≤ 1073741824) (h : Wn 77 w g mtu most size thr part c) :
    Calls Try.prog 54 #[.pointer (some ⟨g, 0, none⟩), .int .i64 n, .bool full] w fun e w' => e = .returned (.tuple #[]) ∧ Wn 77 w' g mtu most (akS mtu most size thr part n full) thr (akP most size thr part n full) (c + 1) ∧ Turn [g] w w' := by
  have HG := (h.good.acked n full).1
  by_cases hn : 1 ≤ n
  · have hn' : ¬ n < 1 := by omega
    by_cases hs : size ≤ thr
    · cases full
      · simp only [akS, akP, if_neg hn', if_pos hs, Bool.false_eq_true, if_false] at HG ⊢
        exact rwacked_1 w g mtu most size thr part c n hn hc hs h (Lib.hid HG)
      · simp only [akS, akP, if_neg hn', if_pos hs, if_true] at HG ⊢
        exact rwacked_2 w g mtu most size thr part c n hn hc hs h (Lib.hid HG)
    · cases full
      · simp only [akS, akP, wQ, if_neg hn', if_neg hs, Bool.false_and, Bool.false_eq_true, if_false] at HG ⊢
        exact rwacked_3 w g mtu most size thr part c n hn hc hs h (Lib.hid HG)
      · by_cases hq : size ≤ part + min n most
        · have hf : decide (size ≤ wQ most part n) = true := decide_eq_true hq
          simp only [akS, akP, if_neg hn', if_neg hs, Bool.true_and, hf, if_true] at HG ⊢
          exact rwacked_5 w g mtu most size thr part c n hn hc hs hq h (Lib.hid HG)
        · have hf : decide (size ≤ wQ most part n) = false := decide_eq_false hq
          simp only [akS, akP, if_neg hn', if_neg hs, Bool.true_and, hf, Bool.false_eq_true, if_false] at HG ⊢
          exact rwacked_4 w g mtu most size thr part c n hn hc hs hq h (Lib.hid HG)
  · have hd : decide (n < 1) = true := by simp; omega
    have e1 : akS mtu most size thr part n full = size := by simp only [akS, if_pos (show n < 1 by omega)]
    have e2 : akP most size thr part n full = part := by simp only [akP, if_pos (show n < 1 by omega)]
    rw [e1, e2] at HG ⊢
    have HG := Lib.hid (And.intro HG h.blk)
    clear h hn e1 e2
    go_enter Try.func54, Try.ntmps54
    go_wp2
    exact bodyPost_ret (results_none rfl _ _ _) rfl ⟨rfl, ⟨HG.out.2, HG.out.1⟩, Turn.refl _ _⟩
end
end Go.Proofs.Ytkgfogepbclhkaa
