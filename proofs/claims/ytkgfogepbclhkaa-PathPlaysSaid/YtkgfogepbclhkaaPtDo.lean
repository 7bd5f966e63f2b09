/-
  What is done with a path (the statements' own 'does'). Written by genptdo.py.
-/
import Derived.Test.YtkgfogepbclhkaaPt3
import Derived.Test.YtkgfogepbclhkaaPtCf
namespace Go.Proofs.Ytkgfogepbclhkaa
open Go.RowKit
set_option linter.unusedVariables false

theorem opBox (W : World) (kind n : Int) (full : Bool) (t u : Int) : Arr (W.alloc (.cells #[.int .i64 kind, .int .i64 n, .bool full, .int .i64 t, .int .i64 u] 36)) W.heap.size 36 [.int .i64 kind, .int .i64 n, .bool full, .int .i64 t, .int .i64 u] := arr_new _ _ _

theorem pdoes_0 (w : World) (g gr gw : Nat) (p : PS) (c : Nat) (n : Int) (full : Bool) (t u : Int) (hc : c ≤ 1073741824) (wt : (Lit.int .i64 t).wf = true) (wu : (Lit.int .i64 u).wf = true) (h : PP w g gr gw p c) :
    Calls Try.prog 13 #[.pointer (some ⟨g, 0, none⟩), .agg #[.int .i64 0, .int .i64 n, .bool full, .int .i64 t, .int .i64 u]] w fun e w' => e = .returned (.bool false) ∧ PP w' g gr gw (p.answered) (c + 1) ∧ Turn [g, gr, gw] w w' := by
  have hbx := opBox w 0 n full t u
  have c0 := hbx.cell (i := 0) rfl
  have c1 := hbx.cell (i := 1) rfl
  have c2 := hbx.cell (i := 2) rfl
  have c3 := hbx.cell (i := 3) rfl
  have c4 := hbx.cell (i := 4) rfl
  have ht : Turn [] w (w.alloc (.cells #[.int .i64 0, .int .i64 n, .bool full, .int .i64 t, .int .i64 u] 36)) := (Turn.refl _ _).alloc _
  have h' := h.turn ht (by simp) (by simp) (by simp)
  have ha := panswered_any _ g gr gw p c h'
  have HT := Lib.hid ht
  clear hbx ht h h' wt wu
  go_enter Try.func13, Try.ntmps13
  go_wp2_with fail
  refine ha.mono ?_
  rintro e w1 ⟨rfl, hs, ht1⟩
  have H := Lib.hid (And.intro (hs.more (Nat.le_succ c)) ((HT.out.mono (by simp)).trans (ht1.mono (cs := [g, gr, gw]) (by simp))))
  clear hs ht1
  go_wp2
  go_ret
  exact ⟨rfl, H.out.1, H.out.2⟩

theorem pdoes_1 (w : World) (g gr gw : Nat) (p : PS) (c : Nat) (n : Int) (full : Bool) (t u : Int) (hc : c ≤ 1073741824) (wt : (Lit.int .i64 t).wf = true) (wu : (Lit.int .i64 u).wf = true) (h : PP w g gr gw p c) :
    Calls Try.prog 13 #[.pointer (some ⟨g, 0, none⟩), .agg #[.int .i64 1, .int .i64 n, .bool full, .int .i64 t, .int .i64 u]] w fun e w' => e = .returned (.bool false) ∧ PP w' g gr gw (p.sample t) (c + 1) ∧ Turn [g, gr, gw] w w' := by
  have hbx := opBox w 1 n full t u
  have c0 := hbx.cell (i := 0) rfl
  have c1 := hbx.cell (i := 1) rfl
  have c2 := hbx.cell (i := 2) rfl
  have c3 := hbx.cell (i := 3) rfl
  have c4 := hbx.cell (i := 4) rfl
  have ht : Turn [] w (w.alloc (.cells #[.int .i64 1, .int .i64 n, .bool full, .int .i64 t, .int .i64 u] 36)) := (Turn.refl _ _).alloc _
  have h' := h.turn ht (by simp) (by simp) (by simp)
  have ha := psample_any _ g gr gw p c h' t
  have HT := Lib.hid ht
  clear hbx ht h h' wt wu
  go_enter Try.func13, Try.ntmps13
  go_wp2_with fail
  refine ha.mono ?_
  rintro e w1 ⟨rfl, hs, ht1⟩
  have H := Lib.hid (And.intro (hs.more (Nat.le_succ c)) ((HT.out.mono (by simp)).trans (ht1.mono (cs := [g, gr, gw]) (by simp))))
  clear hs ht1
  go_wp2
  go_ret
  exact ⟨rfl, H.out.1, H.out.2⟩

theorem pdoes_2 (w : World) (g gr gw : Nat) (p : PS) (c : Nat) (n : Int) (full : Bool) (t u : Int) (hc : c ≤ 1073741824) (wt : (Lit.int .i64 t).wf = true) (wu : (Lit.int .i64 u).wf = true) (h : PP w g gr gw p c) :
    Calls Try.prog 13 #[.pointer (some ⟨g, 0, none⟩), .agg #[.int .i64 2, .int .i64 n, .bool full, .int .i64 t, .int .i64 u]] w fun e w' => e = .returned (.bool false) ∧ PP w' g gr gw (p.acked n full) (c + 1) ∧ Turn [g, gr, gw] w w' := by
  have hbx := opBox w 2 n full t u
  have c0 := hbx.cell (i := 0) rfl
  have c1 := hbx.cell (i := 1) rfl
  have c2 := hbx.cell (i := 2) rfl
  have c3 := hbx.cell (i := 3) rfl
  have c4 := hbx.cell (i := 4) rfl
  have ht : Turn [] w (w.alloc (.cells #[.int .i64 2, .int .i64 n, .bool full, .int .i64 t, .int .i64 u] 36)) := (Turn.refl _ _).alloc _
  have h' := h.turn ht (by simp) (by simp) (by simp)
  have ha := packed_any _ g gr gw p c h' n full hc
  have HT := Lib.hid ht
  clear hbx ht h h' wt wu
  go_enter Try.func13, Try.ntmps13
  go_wp2_with fail
  refine ha.mono ?_
  rintro e w1 ⟨rfl, hs, ht1⟩
  have H := Lib.hid (And.intro hs ((HT.out.mono (by simp)).trans (ht1.mono (cs := [g, gr, gw]) (by simp))))
  clear hs ht1
  go_wp2
  go_ret
  exact ⟨rfl, H.out.1, H.out.2⟩

theorem pdoes_3 (w : World) (g gr gw : Nat) (p : PS) (c : Nat) (n : Int) (full : Bool) (t u : Int) (hc : c ≤ 1073741824) (wt : (Lit.int .i64 t).wf = true) (wu : (Lit.int .i64 u).wf = true) (h : PP w g gr gw p c) :
    Calls Try.prog 13 #[.pointer (some ⟨g, 0, none⟩), .agg #[.int .i64 3, .int .i64 n, .bool full, .int .i64 t, .int .i64 u]] w fun e w' => e = .returned (.bool false) ∧ PP w' g gr gw (p.fast) (c + 1) ∧ Turn [g, gr, gw] w w' := by
  have hbx := opBox w 3 n full t u
  have c0 := hbx.cell (i := 0) rfl
  have c1 := hbx.cell (i := 1) rfl
  have c2 := hbx.cell (i := 2) rfl
  have c3 := hbx.cell (i := 3) rfl
  have c4 := hbx.cell (i := 4) rfl
  have ht : Turn [] w (w.alloc (.cells #[.int .i64 3, .int .i64 n, .bool full, .int .i64 t, .int .i64 u] 36)) := (Turn.refl _ _).alloc _
  have h' := h.turn ht (by simp) (by simp) (by simp)
  have ha := pfast_any _ g gr gw p c h'
  have HT := Lib.hid ht
  clear hbx ht h h' wt wu
  go_enter Try.func13, Try.ntmps13
  go_wp2_with fail
  refine ha.mono ?_
  rintro e w1 ⟨rfl, hs, ht1⟩
  have H := Lib.hid (And.intro (hs.more (Nat.le_succ c)) ((HT.out.mono (by simp)).trans (ht1.mono (cs := [g, gr, gw]) (by simp))))
  clear hs ht1
  go_wp2
  go_ret
  exact ⟨rfl, H.out.1, H.out.2⟩

theorem pdoes_4 (w : World) (g gr gw : Nat) (p : PS) (c : Nat) (n : Int) (full : Bool) (t u : Int) (hc : c ≤ 1073741824) (wt : (Lit.int .i64 t).wf = true) (wu : (Lit.int .i64 u).wf = true) (h : PP w g gr gw p c) :
    Calls Try.prog 13 #[.pointer (some ⟨g, 0, none⟩), .agg #[.int .i64 4, .int .i64 n, .bool full, .int .i64 t, .int .i64 u]] w fun e w' => e = .returned (.bool (p.tells)) ∧ PP w' g gr gw (p.timeout) (c + 1) ∧ Turn [g, gr, gw] w w' := by
  have hbx := opBox w 4 n full t u
  have c0 := hbx.cell (i := 0) rfl
  have c1 := hbx.cell (i := 1) rfl
  have c2 := hbx.cell (i := 2) rfl
  have c3 := hbx.cell (i := 3) rfl
  have c4 := hbx.cell (i := 4) rfl
  have ht : Turn [] w (w.alloc (.cells #[.int .i64 4, .int .i64 n, .bool full, .int .i64 t, .int .i64 u] 36)) := (Turn.refl _ _).alloc _
  have h' := h.turn ht (by simp) (by simp) (by simp)
  have ha := ptimeout_any _ g gr gw p c h'
  have HT := Lib.hid ht
  clear hbx ht h h' wt wu
  go_enter Try.func13, Try.ntmps13
  go_wp2_with fail
  refine ha.mono ?_
  rintro e w1 ⟨rfl, hs, ht1⟩
  have H := Lib.hid (And.intro (hs.more (Nat.le_succ c)) ((HT.out.mono (by simp)).trans (ht1.mono (cs := [g, gr, gw]) (by simp))))
  clear hs ht1
  go_wp2
  go_ret
  exact ⟨rfl, H.out.1, H.out.2⟩

theorem pdoes_5 (w : World) (g gr gw : Nat) (p : PS) (c : Nat) (n : Int) (full : Bool) (t u : Int) (hc : c ≤ 1073741824) (wt : (Lit.int .i64 t).wf = true) (wu : (Lit.int .i64 u).wf = true) (h : PP w g gr gw p c) :
    Calls Try.prog 13 #[.pointer (some ⟨g, 0, none⟩), .agg #[.int .i64 5, .int .i64 n, .bool full, .int .i64 t, .int .i64 u]] w fun e w' => e = .returned (.bool (p.isDue t)) ∧ PP w' g gr gw (p.beat t) (c + 1) ∧ Turn [g, gr, gw] w w' := by
  have hbx := opBox w 5 n full t u
  have c0 := hbx.cell (i := 0) rfl
  have c1 := hbx.cell (i := 1) rfl
  have c2 := hbx.cell (i := 2) rfl
  have c3 := hbx.cell (i := 3) rfl
  have c4 := hbx.cell (i := 4) rfl
  have ht : Turn [] w (w.alloc (.cells #[.int .i64 5, .int .i64 n, .bool full, .int .i64 t, .int .i64 u] 36)) := (Turn.refl _ _).alloc _
  have h' := h.turn ht (by simp) (by simp) (by simp)
  have ha := pbeat_any _ g gr gw p c t h'
  have HT := Lib.hid ht
  clear hbx ht h h' wt wu
  go_enter Try.func13, Try.ntmps13
  go_wp2_with fail
  refine ha.mono ?_
  rintro e w1 ⟨rfl, hs, ht1⟩
  have H := Lib.hid (And.intro (hs.more (Nat.le_succ c)) ((HT.out.mono (by simp)).trans (ht1.mono (cs := [g, gr, gw]) (by simp))))
  clear hs ht1
  go_wp2
  go_ret
  exact ⟨rfl, H.out.1, H.out.2⟩

theorem pdoes_6 (w : World) (g gr gw : Nat) (p : PS) (c : Nat) (n : Int) (full : Bool) (t u : Int) (hc : c ≤ 1073741824) (wt : (Lit.int .i64 t).wf = true) (wu : (Lit.int .i64 u).wf = true) (h : PP w g gr gw p c) :
    Calls Try.prog 13 #[.pointer (some ⟨g, 0, none⟩), .agg #[.int .i64 6, .int .i64 n, .bool full, .int .i64 t, .int .i64 u]] w fun e w' => e = .returned (.bool (p.canBe t u)) ∧ PP w' g gr gw (p.beaten t u) (c + 1) ∧ Turn [g, gr, gw] w w' := by
  have hbx := opBox w 6 n full t u
  have c0 := hbx.cell (i := 0) rfl
  have c1 := hbx.cell (i := 1) rfl
  have c2 := hbx.cell (i := 2) rfl
  have c3 := hbx.cell (i := 3) rfl
  have c4 := hbx.cell (i := 4) rfl
  have ht : Turn [] w (w.alloc (.cells #[.int .i64 6, .int .i64 n, .bool full, .int .i64 t, .int .i64 u] 36)) := (Turn.refl _ _).alloc _
  have h' := h.turn ht (by simp) (by simp) (by simp)
  have ha := pbeaten_any _ g gr gw p c t u wt wu h'
  have HT := Lib.hid ht
  clear hbx ht h h' wt wu
  go_enter Try.func13, Try.ntmps13
  go_wp2_with fail
  refine ha.mono ?_
  rintro e w1 ⟨rfl, hs, ht1⟩
  have H := Lib.hid (And.intro (hs.more (Nat.le_succ c)) ((HT.out.mono (by simp)).trans (ht1.mono (cs := [g, gr, gw]) (by simp))))
  clear hs ht1
  go_wp2
  go_ret
  exact ⟨rfl, H.out.1, H.out.2⟩

theorem pdoes_no (w : World) (g gr gw : Nat) (p : PS) (c : Nat) (kind n : Int) (full : Bool) (t u : Int) (hk : ¬ (kind = 0 ∨ kind = 1 ∨ kind = 2 ∨ kind = 3 ∨ kind = 4 ∨ kind = 5 ∨ kind = 6)) (h : PP w g gr gw p c) :
    Calls Try.prog 13 #[.pointer (some ⟨g, 0, none⟩), .agg #[.int .i64 kind, .int .i64 n, .bool full, .int .i64 t, .int .i64 u]] w fun e w' => e = .returned (.bool false) ∧ PP w' g gr gw p (c + 1) ∧ Turn [g, gr, gw] w w' := by
  have hbx := opBox w kind n full t u
  have c0 := hbx.cell (i := 0) rfl
  have c1 := hbx.cell (i := 1) rfl
  have c2 := hbx.cell (i := 2) rfl
  have c3 := hbx.cell (i := 3) rfl
  have c4 := hbx.cell (i := 4) rfl
  have ht : Turn [] w (w.alloc (.cells #[.int .i64 kind, .int .i64 n, .bool full, .int .i64 t, .int .i64 u] 36)) := (Turn.refl _ _).alloc _
  have h' := h.turn ht (by simp) (by simp) (by simp)
  have HT := Lib.hid (And.intro ht (h'.more (Nat.le_succ c)))
  have b0 : (kind == 0) = false := by simp; omega
  have b1 : (kind == 1) = false := by simp; omega
  have b2 : (kind == 2) = false := by simp; omega
  have b3 : (kind == 3) = false := by simp; omega
  have b4 : (kind == 4) = false := by simp; omega
  have b5 : (kind == 5) = false := by simp; omega
  have b6 : (kind == 6) = false := by simp; omega
  clear hbx ht h h' hk
  go_enter Try.func13, Try.ntmps13
  go_wp2
  go_ret
  exact ⟨rfl, HT.out.2, HT.out.1.mono (by simp)⟩

theorem pdoes_any (w : World) (g gr gw : Nat) (p : PS) (c : Nat) (kind n : Int) (full : Bool) (t u : Int) (hc : c ≤ 1073741824) (wt : (Lit.int .i64 t).wf = true) (wu : (Lit.int .i64 u).wf = true) (h : PP w g gr gw p c) :
    Calls Try.prog 13 #[.pointer (some ⟨g, 0, none⟩), .agg #[.int .i64 kind, .int .i64 n, .bool full, .int .i64 t, .int .i64 u]] w fun e w' => e = .returned (.bool (p.out kind t u)) ∧ PP w' g gr gw (p.next kind n full t u) (c + 1) ∧ Turn [g, gr, gw] w w' := by
  by_cases k0 : kind = 0
  · subst k0
    exact pdoes_0 w g gr gw p c n full t u hc wt wu h
  by_cases k1 : kind = 1
  · subst k1
    exact pdoes_1 w g gr gw p c n full t u hc wt wu h
  by_cases k2 : kind = 2
  · subst k2
    exact pdoes_2 w g gr gw p c n full t u hc wt wu h
  by_cases k3 : kind = 3
  · subst k3
    exact pdoes_3 w g gr gw p c n full t u hc wt wu h
  by_cases k4 : kind = 4
  · subst k4
    exact pdoes_4 w g gr gw p c n full t u hc wt wu h
  by_cases k5 : kind = 5
  · subst k5
    exact pdoes_5 w g gr gw p c n full t u hc wt wu h
  by_cases k6 : kind = 6
  · subst k6
    exact pdoes_6 w g gr gw p c n full t u hc wt wu h
  have e1 : p.next kind n full t u = p := by simp only [PS.next, if_neg k0, if_neg k1, if_neg k2, if_neg k3, if_neg k4, if_neg k5, if_neg k6]
  have e2 : p.out kind t u = false := by simp only [PS.out, if_neg k4, if_neg k5, if_neg k6]
  rw [e1, e2]
  exact pdoes_no w g gr gw p c kind n full t u (by omega) h

theorem pdoes_nil (w : World) (kind n : Int) (full : Bool) (t u : Int) :
    Calls Try.prog 13 #[.pointer none, .agg #[.int .i64 kind, .int .i64 n, .bool full, .int .i64 t, .int .i64 u]] w fun e w' => e = .returned (.bool false) ∧ Turn [] w w' := by
  have hbx := opBox w kind n full t u
  have c0 := hbx.cell (i := 0) rfl
  have c1 := hbx.cell (i := 1) rfl
  have c2 := hbx.cell (i := 2) rfl
  have c3 := hbx.cell (i := 3) rfl
  have c4 := hbx.cell (i := 4) rfl
  have ht : Turn [] w (w.alloc (.cells #[.int .i64 kind, .int .i64 n, .bool full, .int .i64 t, .int .i64 u] 36)) := (Turn.refl _ _).alloc _
  have HT := Lib.hid ht
  clear hbx ht
  by_cases k0 : kind = 0
  · subst k0
    skip
    go_enter Try.func13, Try.ntmps13
    go_wp2_with fail
    refine (panswered_nil _).mono ?_
    rintro e w1 ⟨rfl, rfl⟩
    go_wp2
    go_ret
    exact ⟨rfl, HT.out⟩
  by_cases k1 : kind = 1
  · subst k1
    clear k0
    go_enter Try.func13, Try.ntmps13
    go_wp2_with fail
    refine (psample_nil _ t).mono ?_
    rintro e w1 ⟨rfl, rfl⟩
    go_wp2
    go_ret
    exact ⟨rfl, HT.out⟩
  by_cases k2 : kind = 2
  · subst k2
    clear k0 k1
    go_enter Try.func13, Try.ntmps13
    go_wp2_with fail
    refine (packed_nil _ n full).mono ?_
    rintro e w1 ⟨rfl, rfl⟩
    go_wp2
    go_ret
    exact ⟨rfl, HT.out⟩
  by_cases k3 : kind = 3
  · subst k3
    clear k0 k1 k2
    go_enter Try.func13, Try.ntmps13
    go_wp2_with fail
    refine (pfast_nil _).mono ?_
    rintro e w1 ⟨rfl, rfl⟩
    go_wp2
    go_ret
    exact ⟨rfl, HT.out⟩
  by_cases k4 : kind = 4
  · subst k4
    clear k0 k1 k2 k3
    go_enter Try.func13, Try.ntmps13
    go_wp2_with fail
    refine (ptimeout_nil _).mono ?_
    rintro e w1 ⟨rfl, rfl⟩
    go_wp2
    go_ret
    exact ⟨rfl, HT.out⟩
  by_cases k5 : kind = 5
  · subst k5
    clear k0 k1 k2 k3 k4
    go_enter Try.func13, Try.ntmps13
    go_wp2_with fail
    refine (pbeat_nil _ t).mono ?_
    rintro e w1 ⟨rfl, rfl⟩
    go_wp2
    go_ret
    exact ⟨rfl, HT.out⟩
  by_cases k6 : kind = 6
  · subst k6
    clear k0 k1 k2 k3 k4 k5
    go_enter Try.func13, Try.ntmps13
    go_wp2_with fail
    refine (pbeaten_nil _ t u).mono ?_
    rintro e w1 ⟨rfl, rfl⟩
    go_wp2
    go_ret
    exact ⟨rfl, HT.out⟩
  have b0 : (kind == 0) = false := by simpa using k0
  have b1 : (kind == 1) = false := by simpa using k1
  have b2 : (kind == 2) = false := by simpa using k2
  have b3 : (kind == 3) = false := by simpa using k3
  have b4 : (kind == 4) = false := by simpa using k4
  have b5 : (kind == 5) = false := by simpa using k5
  have b6 : (kind == 6) = false := by simpa using k6
  clear k0 k1 k2 k3 k4 k5 k6
  go_enter Try.func13, Try.ntmps13
  go_wp2
  go_ret
  exact ⟨rfl, HT.out⟩
end Go.Proofs.Ytkgfogepbclhkaa
