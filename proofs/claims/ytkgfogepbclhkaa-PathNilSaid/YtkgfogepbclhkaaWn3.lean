/-
  The program's window: Acked.
-/
import Derived.Test.YtkgfogepbclhkaaWn2
namespace Go.Proofs.Ytkgfogepbclhkaa
open Go.RowKit
set_option linter.unusedVariables false

section
variable (w : World) (g : Nat) (mtu most thr : Int) (c : Nat)
theorem wacked_F (n s' p' : Int) (full : Bool) (hd : decide (n < 1) = false) (HG : Hid (WGood mtu most (min s' most) thr p' (c + 1)))
    (ha : Calls Try.prog 63 #[.pointer (some ⟨g, 0, none⟩)] w (fun e w' => e = .returned (.func (.func 67) #[.pointer (some ⟨g, 0, none⟩)] #[]) ∧ Turn [] w w'))
    (HK : Hid (∀ w1, Turn [] w w1 → Calls Try.prog 67 #[.pointer (some ⟨g, 0, none⟩), .int .i64 n, .bool full] w1 fun e w' => e = .returned (.tuple #[]) ∧ Arr w' g 73 (wnC mtu most s' thr p') ∧ Turn [g] w1 w')) :
    Calls Try.prog 51 #[.pointer (some ⟨g, 0, none⟩), .int .i64 n, .bool full] w fun e w' => e = .returned (.tuple #[]) ∧ Wn 73 w' g mtu most (min s' most) thr p' (c + 1) ∧ Turn [g] w w' := by
  go_enter Try.func51, Try.ntmps51
  go_wp2_with fail
  refine ha.mono ?_
  rintro e w1 ⟨rfl, ht1⟩
  have hk := HK.out w1 ht1
  have HT1 := Lib.hid ht1
  clear ha ht1
  go_wp2_with fail
  refine hk.mono ?_
  rintro e w2 ⟨rfl, hB, ht2⟩
  have hlt := hB.lt
  have c1 := hB.cell (i := 1) rfl
  have c2 := hB.cell (i := 2) rfl
  have f2 := hB.free 2
  have HA := Lib.hid (And.intro (wnC_size hB (min s' most)) (((HT1.out.mono (by simp)).trans ht2).setCell (p := ⟨g, 2, none⟩) (bs := [g]) (by simp) (.int .i64 (min s' most))))
  clear hk hB ht2
  go_upto_region 3 with fail
  go_region
  go_wp2
  go_end0
  exact ⟨rfl, ⟨HA.out.1, HG.out⟩, HA.out.2.drew⟩
theorem wacked_S (n s' p' : Int) (full : Bool) (hd : decide (n < 1) = false) (HG : Hid (WGood mtu most (min s' most) thr p' (c + 1)))
    (ha : Calls Try.prog 63 #[.pointer (some ⟨g, 0, none⟩)] w (fun e w' => e = .returned (.func (.func 66) #[.pointer (some ⟨g, 0, none⟩)] #[]) ∧ Turn [] w w'))
    (HK : Hid (∀ w1, Turn [] w w1 → Calls Try.prog 66 #[.pointer (some ⟨g, 0, none⟩), .int .i64 n, .bool full] w1 fun e w' => e = .returned (.tuple #[]) ∧ Arr w' g 73 (wnC mtu most s' thr p') ∧ Turn [g] w1 w')) :
    Calls Try.prog 51 #[.pointer (some ⟨g, 0, none⟩), .int .i64 n, .bool full] w fun e w' => e = .returned (.tuple #[]) ∧ Wn 73 w' g mtu most (min s' most) thr p' (c + 1) ∧ Turn [g] w w' := by
  go_enter Try.func51, Try.ntmps51
  go_wp2_with fail
  refine ha.mono ?_
  rintro e w1 ⟨rfl, ht1⟩
  have hk := HK.out w1 ht1
  have HT1 := Lib.hid ht1
  clear ha ht1
  go_wp2_with fail
  refine hk.mono ?_
  rintro e w2 ⟨rfl, hB, ht2⟩
  have hlt := hB.lt
  have c1 := hB.cell (i := 1) rfl
  have c2 := hB.cell (i := 2) rfl
  have f2 := hB.free 2
  have HA := Lib.hid (And.intro (wnC_size hB (min s' most)) (((HT1.out.mono (by simp)).trans ht2).setCell (p := ⟨g, 2, none⟩) (bs := [g]) (by simp) (.int .i64 (min s' most))))
  clear hk hB ht2
  go_upto_region 3 with fail
  go_region
  go_wp2
  go_end0
  exact ⟨rfl, ⟨HA.out.1, HG.out⟩, HA.out.2.drew⟩
end
section
variable (w : World) (g : Nat) (mtu most size thr part : Int) (c : Nat)
theorem wacked_any (n : Int) (full : Bool) (hc : c ≤ 1073741824) (h : Wn 73 w g mtu most size thr part c) :
    Calls Try.prog 51 #[.pointer (some ⟨g, 0, none⟩), .int .i64 n, .bool full] w fun e w' => e = .returned (.tuple #[]) ∧ Wn 73 w' g mtu most (akS mtu most size thr part n full) thr (akP most size thr part n full) (c + 1) ∧ Turn [g] w w' := by
  by_cases hn : 1 ≤ n
  · have hn' : ¬ n < 1 := by omega
    have hd : decide (n < 1) = false := by simp; omega
    have HG := (h.good.acked n full).1
    have ha := waction_any w g mtu most size thr part c h
    by_cases hs : size ≤ thr
    · rw [if_pos hs] at ha
      cases full
      · have e1 : akS mtu most size thr part n false = min size most := by simp only [akS, if_neg hn', if_pos hs, Bool.false_eq_true, if_false]
        have e2 : akP most size thr part n false = part := by simp only [akP, if_neg hn', if_pos hs]
        rw [e1, e2] at HG ⊢
        refine wacked_F w g mtu most thr c n size part false hd (Lib.hid HG) ha (Lib.hid fun w1 ht => ?_)
        have h1 := h.turn ht (by simp)
        refine (wgrowF w1 g mtu most size thr part c n h1).mono ?_
        rintro e w' ⟨rfl, rfl⟩
        exact ⟨rfl, h1.blk, Turn.refl _ _⟩
      · have e1 : akS mtu most size thr part n true = min (size + min n mtu) most := by simp only [akS, if_neg hn', if_pos hs, if_true]
        have e2 : akP most size thr part n true = part := by simp only [akP, if_neg hn', if_pos hs]
        rw [e1, e2] at HG ⊢
        exact wacked_F w g mtu most thr c n _ part true hd (Lib.hid HG) ha (Lib.hid fun w1 ht => wgrowT w1 g mtu most size thr part c n hn (h.turn ht (by simp)))
    · rw [if_neg hs] at ha
      cases hf : (full && decide (size ≤ wQ most part n))
      · have e1 : akS mtu most size thr part n full = min size most := by simp only [akS, if_neg hn', if_neg hs, hf, Bool.false_eq_true, if_false]
        have e2 : akP most size thr part n full = wQ most part n := by simp only [akP, if_neg hn', if_neg hs, hf, Bool.false_eq_true, if_false]
        rw [e1, e2] at HG ⊢
        exact wacked_S w g mtu most thr c n size _ full hd (Lib.hid HG) ha (Lib.hid fun w1 ht => wslowF w1 g mtu most size thr part c n hn hc full hf (h.turn ht (by simp)))
      · have e1 : akS mtu most size thr part n full = min (size + mtu) most := by simp only [akS, if_neg hn', if_neg hs, hf, if_true]
        have e2 : akP most size thr part n full = wQ most part n - size := by simp only [akP, if_neg hn', if_neg hs, hf, if_true]
        rw [e1, e2] at HG ⊢
        simp only [Bool.and_eq_true, decide_eq_true_eq] at hf
        obtain ⟨rfl, hf⟩ := hf
        exact wacked_S w g mtu most thr c n _ _ true hd (Lib.hid HG) ha (Lib.hid fun w1 ht => wslowT w1 g mtu most size thr part c n hn hc hf (h.turn ht (by simp)))
  · have hd : decide (n < 1) = true := by simp; omega
    have HG := Lib.hid (And.intro (h.good.acked n full).1 h.blk)
    have e1 : akS mtu most size thr part n full = size := by simp only [akS, if_pos (show n < 1 by omega)]
    have e2 : akP most size thr part n full = part := by simp only [akP, if_pos (show n < 1 by omega)]
    rw [e1, e2] at HG ⊢
    clear h hn e1 e2
    go_enter Try.func51, Try.ntmps51
    go_wp2
    exact bodyPost_ret (results_none rfl _ _ _) rfl ⟨rfl, ⟨HG.out.2, HG.out.1⟩, Turn.refl _ _⟩
end
end Go.Proofs.Ytkgfogepbclhkaa
