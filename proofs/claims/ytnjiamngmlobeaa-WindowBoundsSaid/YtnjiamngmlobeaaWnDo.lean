/-
  What is done with a window (the statements' own 'does').
-/
import Derived.Test.YtnjiamngmlobeaaWnWk
namespace Go.Proofs.Ytnjiamngmlobeaa
open Go.RowKit
set_option linter.unusedVariables false

theorem opBox (W : World) (kind n : Int) (full : Bool) : Arr (W.alloc (.cells #[.int .i64 kind, .int .i64 n, .bool full] 33)) W.heap.size 33 [.int .i64 kind, .int .i64 n, .bool full] := arr_new _ _ _
theorem wdoes_any (w : World) (g : Nat) (mtu most size thr part : Int) (c : Nat) (kind n : Int) (full : Bool) (hc : c ≤ 1073741824) (h : Wn 45 w g mtu most size thr part c) :
    Calls Try.prog 12 #[.pointer (some ⟨g, 0, none⟩), .agg #[.int .i64 kind, .int .i64 n, .bool full]] w fun e w' => e = .returned (.tuple #[]) ∧ Wn 45 w' g mtu most (dS mtu most size thr part kind n full) (dT mtu size thr kind) (dP most size thr part kind n full) (c + 1) ∧ Turn [g] w w' := by
  have hbx := opBox w kind n full
  have c0 := hbx.cell (i := 0) rfl
  have c1 := hbx.cell (i := 1) rfl
  have c2 := hbx.cell (i := 2) rfl
  have ht : Turn [] w (w.alloc (.cells #[.int .i64 kind, .int .i64 n, .bool full] 33)) := (Turn.refl _ _).alloc _
  have h' := h.turn ht (by simp)
  have HT := Lib.hid ht
  clear hbx ht h
  by_cases k0 : kind = 0
  · subst k0
    have ha := wacked_any _ g mtu most size thr part c n full hc h'
    have e1 : dS mtu most size thr part 0 n full = akS mtu most size thr part n full := rfl
    have e2 : dP most size thr part 0 n full = akP most size thr part n full := rfl
    have e3 : dT mtu size thr 0 = thr := rfl
    rw [e1, e2, e3]
    clear h' e1 e2 e3
    go_enter Try.func12, Try.ntmps12
    go_wp2_with fail
    refine ha.mono ?_
    rintro e w1 ⟨rfl, hs, ht1⟩
    have H := Lib.hid (And.intro hs ((HT.out.mono (by simp)).trans ht1))
    clear hs ht1
    go_wp2
    go_end0
    exact ⟨rfl, H.out.1, H.out.2⟩
  · by_cases k1 : kind = 1
    · subst k1
      have ha := wfast_any _ g mtu most size thr part c h' (c + 1)
      have e1 : dS mtu most size thr part 1 n full = min size (wT mtu size) := rfl
      have e2 : dP most size thr part 1 n full = 0 := rfl
      have e3 : dT mtu size thr 1 = wT mtu size := rfl
      rw [e1, e2, e3]
      clear h' k0 e1 e2 e3
      go_enter Try.func12, Try.ntmps12
      go_wp2_with fail
      refine ha.mono ?_
      rintro e w1 ⟨rfl, hs, ht1⟩
      have H := Lib.hid (And.intro hs ((HT.out.mono (by simp)).trans ht1))
      clear hs ht1
      go_wp2
      go_end0
      exact ⟨rfl, H.out.1, H.out.2⟩
    · by_cases k2 : kind = 2
      · subst k2
        have ha := wtimeout_any _ g mtu most size thr part c h' (c + 1)
        have e1 : dS mtu most size thr part 2 n full = mtu := rfl
        have e2 : dP most size thr part 2 n full = 0 := rfl
        have e3 : dT mtu size thr 2 = wT mtu size := rfl
        rw [e1, e2, e3]
        clear h' k0 k1 e1 e2 e3
        go_enter Try.func12, Try.ntmps12
        go_wp2_with fail
        refine ha.mono ?_
        rintro e w1 ⟨rfl, hs, ht1⟩
        have H := Lib.hid (And.intro hs ((HT.out.mono (by simp)).trans ht1))
        clear hs ht1
        go_wp2
        go_end0
        exact ⟨rfl, H.out.1, H.out.2⟩
      · have b0 : (kind == 0) = false := by simpa using k0
        have b1 : (kind == 1) = false := by simpa using k1
        have b2 : (kind == 2) = false := by simpa using k2
        have e1 : dS mtu most size thr part kind n full = size := by simp only [dS, if_neg k0, if_neg k1, if_neg k2]
        have e2 : dP most size thr part kind n full = part := by simp only [dP, if_neg k0, if_neg (show ¬ (kind = 1 ∨ kind = 2) by omega)]
        have e3 : dT mtu size thr kind = thr := by simp only [dT, if_neg (show ¬ (kind = 1 ∨ kind = 2) by omega)]
        rw [e1, e2, e3]
        have H := Lib.hid (show Wn 45 (w.alloc (.cells #[.int .i64 kind, .int .i64 n, .bool full] 33)) g mtu most size thr part (c + 1) from ⟨h'.blk, h'.good.more (by omega)⟩)
        clear h' k0 k1 k2 e1 e2 e3
        go_enter Try.func12, Try.ntmps12
        go_wp2
        go_end0
        exact ⟨rfl, H.out, HT.out.mono (by simp)⟩
theorem wdoes_nil (w : World) (kind n : Int) (full : Bool) :
    Calls Try.prog 12 #[.pointer none, .agg #[.int .i64 kind, .int .i64 n, .bool full]] w fun e w' => e = .returned (.tuple #[]) ∧ Turn [] w w' := by
  have hbx := opBox w kind n full
  have c0 := hbx.cell (i := 0) rfl
  have c1 := hbx.cell (i := 1) rfl
  have c2 := hbx.cell (i := 2) rfl
  have ht : Turn [] w (w.alloc (.cells #[.int .i64 kind, .int .i64 n, .bool full] 33)) := (Turn.refl _ _).alloc _
  have HT := Lib.hid ht
  clear hbx ht
  by_cases k0 : kind = 0
  · subst k0
    go_enter Try.func12, Try.ntmps12
    go_wp2_with fail
    refine (wacked_nil _ n full).mono ?_
    rintro e w1 ⟨rfl, rfl⟩
    go_wp2
    go_end0
    exact ⟨rfl, HT.out⟩
  · by_cases k1 : kind = 1
    · subst k1
      clear k0
      go_enter Try.func12, Try.ntmps12
      go_wp2_with fail
      refine (wfast_nil _).mono ?_
      rintro e w1 ⟨rfl, rfl⟩
      go_wp2
      go_end0
      exact ⟨rfl, HT.out⟩
    · by_cases k2 : kind = 2
      · subst k2
        clear k0 k1
        go_enter Try.func12, Try.ntmps12
        go_wp2_with fail
        refine (wtimeout_nil _).mono ?_
        rintro e w1 ⟨rfl, rfl⟩
        go_wp2
        go_end0
        exact ⟨rfl, HT.out⟩
      · have b0 : (kind == 0) = false := by simpa using k0
        have b1 : (kind == 1) = false := by simpa using k1
        have b2 : (kind == 2) = false := by simpa using k2
        clear k0 k1 k2
        go_enter Try.func12, Try.ntmps12
        go_wp2
        go_end0
        exact ⟨rfl, HT.out⟩
end Go.Proofs.Ytnjiamngmlobeaa
