/-
  The program's window: what an acknowledgement does (the method value), Acked.
-/
import Derived.Test.YtkgfogepbclhkaaWn1
namespace Go.Proofs.Ytkgfogepbclhkaa
open Go.RowKit
set_option linter.unusedVariables false

section
variable (w : World) (g : Nat) (mtu most size thr part : Int) (c : Nat)
theorem wgrowF (n : Int) (h : Wn 73 w g mtu most size thr part c) :
    Calls Try.prog 67 #[.pointer (some ⟨g, 0, none⟩), .int .i64 n, .bool false] w fun e w' => e = .returned (.tuple #[]) ∧ w = w' := by
  go_enter Try.func67, Try.ntmps67
  go_wp2
  go_end0
  exact ⟨rfl, rfl⟩
theorem wgrowT (n : Int) (hn : 1 ≤ n) (h : Wn 73 w g mtu most size thr part c) :
    Calls Try.prog 67 #[.pointer (some ⟨g, 0, none⟩), .int .i64 n, .bool true] w fun e w' => e = .returned (.tuple #[]) ∧ Arr w' g 73 (wnC mtu most (size + min n mtu) thr part) ∧ Turn [g] w w' := by
  obtain ⟨a1, a2, a3, a4, a5, a6, a7, a8, a9, a10⟩ := h.good
  have hlt := h.lt
  have c0 := h.blk.cell (i := 0) rfl
  have c2 := h.blk.cell (i := 2) rfl
  have f2 := h.blk.free 2
  have hA := wnC_size h.blk (size + min n mtu)
  have hT : Turn [g] w (w.setCell ⟨g, 2, none⟩ (.int .i64 (size + min n mtu))) := (Turn.refl _ _).setCell (by simp) _
  have HA := Lib.hid (And.intro hA hT)
  have hm : -9223372036854775808 ≤ size + min n mtu ∧ size + min n mtu ≤ 9223372036854775807 := by omega
  clear hA hT h
  go_enter Try.func67, Try.ntmps67
  go_upto_region 1 with fail
  go_region
  go_wp2
  go_end0
  exact ⟨rfl, HA.out.1, HA.out.2.drew⟩

/-- The slow growth does not come to a packet. -/
theorem wslowF (n : Int) (hn : 1 ≤ n) (hc : c ≤ 1073741824) (full : Bool) (hf : (full && decide (size ≤ wQ most part n)) = false) (h : Wn 73 w g mtu most size thr part c) :
    Calls Try.prog 66 #[.pointer (some ⟨g, 0, none⟩), .int .i64 n, .bool full] w fun e w' => e = .returned (.tuple #[]) ∧ Arr w' g 73 (wnC mtu most size thr (wQ most part n)) ∧ Turn [g] w w' := by
  obtain ⟨a1, a2, a3, a4, a5, a6, a7, a8, a9, a10⟩ := h.good
  have hlt := h.lt
  have c1 := h.blk.cell (i := 1) rfl
  have c2 := h.blk.cell (i := 2) rfl
  have c4 := h.blk.cell (i := 4) rfl
  have f4 := h.blk.free 4
  have hA := wnC_part h.blk (wQ most part n)
  have hT : Turn [g] w (w.setCell ⟨g, 4, none⟩ (.int .i64 (wQ most part n))) := (Turn.refl _ _).setCell (by simp) _
  have HA := Lib.hid (And.intro hA hT)
  have hq : wQ most part n = part + min n most := rfl
  have hm : -9223372036854775808 ≤ part + min n most ∧ part + min n most ≤ 9223372036854775807 := by omega
  rw [hq] at HA hf ⊢
  clear hA hT h hq
  cases full
  · go_enter Try.func66, Try.ntmps66
    go_upto_region 0 with fail
    go_region
    go_wp2
    go_end0
    exact ⟨rfl, HA.out.1, HA.out.2.drew⟩
  · simp only [Bool.true_and] at hf
    go_enter Try.func66, Try.ntmps66
    go_upto_region 0 with fail
    go_region
    go_wp2
    go_end0
    exact ⟨rfl, HA.out.1, HA.out.2.drew⟩
theorem wslowT (n : Int) (hn : 1 ≤ n) (hc : c ≤ 1073741824) (hf : size ≤ wQ most part n) (h : Wn 73 w g mtu most size thr part c) :
    Calls Try.prog 66 #[.pointer (some ⟨g, 0, none⟩), .int .i64 n, .bool true] w fun e w' => e = .returned (.tuple #[]) ∧ Arr w' g 73 (wnC mtu most (size + mtu) thr (wQ most part n - size)) ∧ Turn [g] w w' := by
  obtain ⟨a1, a2, a3, a4, a5, a6, a7, a8, a9, a10⟩ := h.good
  have hlt := h.lt
  have c0 := h.blk.cell (i := 0) rfl
  have c1 := h.blk.cell (i := 1) rfl
  have c2 := h.blk.cell (i := 2) rfl
  have c4 := h.blk.cell (i := 4) rfl
  have f2 := h.blk.free 2
  have f4 := h.blk.free 4
  have hA := wnC_size (wnC_part (wnC_part h.blk (wQ most part n)) (wQ most part n - size)) (size + mtu)
  have hT : Turn [g] w (((w.setCell ⟨g, 4, none⟩ (.int .i64 (wQ most part n))).setCell ⟨g, 4, none⟩ (.int .i64 (wQ most part n - size))).setCell ⟨g, 2, none⟩ (.int .i64 (size + mtu))) := (((Turn.refl _ _).setCell (by simp) _).setCell (by simp) _).setCell (by simp) _
  have HA := Lib.hid (And.intro hA hT)
  have hq : wQ most part n = part + min n most := rfl
  have hm : -9223372036854775808 ≤ part + min n most ∧ part + min n most ≤ 9223372036854775807 := by omega
  rw [hq] at HA hf ⊢
  have hd : decide (size ≤ part + min n most) = true := by simpa using hf
  clear hA hT h hq hf
  go_enter Try.func66, Try.ntmps66
  go_upto_region 0 with fail
  go_region
  go_upto_region 4 with fail
  go_region
  go_wp2
  go_end0
  exact ⟨rfl, HA.out.1, HA.out.2.drew.drew⟩

theorem waction_any (h : Wn 73 w g mtu most size thr part c) :
    Calls Try.prog 63 #[.pointer (some ⟨g, 0, none⟩)] w fun e w' => e = .returned (if size ≤ thr then .func (.func 67) #[.pointer (some ⟨g, 0, none⟩)] #[] else .func (.func 66) #[.pointer (some ⟨g, 0, none⟩)] #[]) ∧ Turn [] w w' := by
  have c2 := h.blk.cell (i := 2) rfl
  have c3 := h.blk.cell (i := 3) rfl
  by_cases hs : size ≤ thr
  · have hd : decide (thr < size) = false := by simpa using hs
    rw [if_pos hs]
    clear h hs
    go_enter Try.func63, Try.ntmps63
    go_upto_region 1 with fail
    go_region
    go_wp2
    go_ret
    exact ⟨rfl, (Turn.refl _ _).drew⟩
  · have hd : decide (thr < size) = true := by simpa using hs
    rw [if_neg hs]
    clear h hs
    go_enter Try.func63, Try.ntmps63
    go_upto_region 1 with fail
    go_region
    go_wp2
    go_ret
    exact ⟨rfl, (Turn.refl _ _).drew⟩
end
end Go.Proofs.Ytkgfogepbclhkaa
