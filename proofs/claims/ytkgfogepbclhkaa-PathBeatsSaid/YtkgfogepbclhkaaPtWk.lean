/-
  The anchor of the path statements: works() is true, and turns nothing that was there. Written by genptwk.py.
-/
import Derived.Test.YtkgfogepbclhkaaPtDo
import Derived.Test.YtkgfogepbclhkaaPt4
import Derived.Test.YtkgfogepbclhkaaPtPlain
namespace Go.Proofs.Ytkgfogepbclhkaa
open Go.RowKit
set_option linter.unusedVariables false

theorem pbeat_at (w : World) (g gr gw : Nat) (p q : PS) (c : Nat) (now : Int) (b : Bool) (h : PP w g gr gw p c) (hb : p.isDue now = b) (hq : p.beat now = q) :
    Calls Try.prog 22 #[.pointer (some ⟨g, 0, none⟩), .int .i64 now] w fun e w' => e = .returned (.bool b) ∧ PP w' g gr gw q c ∧ Turn [g, gr, gw] w w' := by
  rw [← hb, ← hq]; exact pbeat_any w g gr gw p c now h
theorem ptimeout_at (w : World) (g gr gw : Nat) (p q : PS) (c : Nat) (b : Bool) (h : PP w g gr gw p c) (hb : p.tells = b) (hq : p.timeout = q) :
    Calls Try.prog 19 #[.pointer (some ⟨g, 0, none⟩)] w fun e w' => e = .returned (.bool b) ∧ PP w' g gr gw q c ∧ Turn [g, gr, gw] w w' := by
  rw [← hb, ← hq]; exact ptimeout_any w g gr gw p c h
theorem pbeaten_at (w : World) (g gr gw : Nat) (p q : PS) (c : Nat) (s n : Int) (b : Bool) (w1 : (Lit.int .i64 s).wf = true) (w2 : (Lit.int .i64 n).wf = true) (h : PP w g gr gw p c) (hb : p.canBe s n = b) (hq : p.beaten s n = q) :
    Calls Try.prog 24 #[.pointer (some ⟨g, 0, none⟩), .int .i64 s, .int .i64 n] w fun e w' => e = .returned (.bool b) ∧ PP w' g gr gw q c ∧ Turn [g, gr, gw] w w' := by
  rw [← hb, ← hq]; exact pbeaten_any w g gr gw p c s n w1 w2 h
theorem pactive_at (w : World) (g gr gw : Nat) (p : PS) (c : Nat) (b : Bool) (h : PP w g gr gw p c) (hb : p.active = b) :
    Calls Try.prog 18 #[.pointer (some ⟨g, 0, none⟩)] w fun e w' => e = .returned (.bool b) ∧ ∃ m, w' = w.drewN m := by
  rw [← hb]; exact pactive_any w g gr gw p c h
section
variable (w : World) (g gr gw : Nat) (p : PS) (c : Nat) (v : Int) (h : PP w g gr gw p c)
theorem pfailures_at (h : PP w g gr gw p c) (hv : p.bad = v) : Calls Try.prog 17 #[.pointer (some ⟨g, 0, none⟩)] w fun e w' => e = .returned (.int .i64 v) ∧ w = w' := by rw [← hv]; exact pfailures_any w g gr gw p c h
theorem prto_at (h : PP w g gr gw p c) (hv : p.x = v) : Calls Try.prog 23 #[.pointer (some ⟨g, 0, none⟩)] w fun e w' => e = .returned (.int .i64 v) ∧ w = w' := by rw [← hv]; exact prto_any w g gr gw p c h
theorem psize_at (h : PP w g gr gw p c) (hv : p.size = v) : Calls Try.prog 20 #[.pointer (some ⟨g, 0, none⟩)] w fun e w' => e = .returned (.int .i64 v) ∧ w = w' := by rw [← hv]; exact psize_any w g gr gw p c h
theorem pwhen_at (h : PP w g gr gw p c) (hv : p.due = v) : Calls Try.prog 16 #[.pointer (some ⟨g, 0, none⟩)] w fun e w' => e = .returned (.int .i64 v) ∧ w = w' := by rw [← hv]; exact pwhen_any w g gr gw p c h
end

set_option maxHeartbeats 1600000 in
theorem works_any (w : World) : Calls Try.prog 9 #[] w fun e w' => e = .returned (.bool true) ∧ Turn [] w w' := by
  have hp := plain_any w 1 (by omega) (by omega)
  have hn : ∀ W, Calls Try.prog 10 #[.agg #[.int .i64 0, .int .i64 128, .int .i64 0, .int .i64 0, .int .i64 0, .int .i64 1000, .int .i64 3, .int .i64 1, .int .i64 60, .int .i64 0, .int .i64 0, .int .i64 10, .int .i64 1, .int .i64 0], .int .i64 5] W fun e w' => ∃ g gr gw, e = .returned (.tuple #[.pointer (some ⟨g, 0, none⟩), .int .i64 0]) ∧ PP w' g gr gw (PS.mk 3 1 60 false 0 0 128 1000 256 1000 0 1 0 10 15 false) 0 ∧ Turn [] W w' ∧ W.heap.size ≤ g ∧ W.heap.size ≤ gr ∧ W.heap.size ≤ gw := fun W => pnew_yes W 0 128 0 0 0 1000 3 1 60 0 0 10 1 0 5 0 (by decide)
  go_enter Try.func9, Try.ntmps9
  go_wp2_with fail
  refine hp.mono ?_
  rintro e wa ⟨rfl, hta⟩
  replace hn := hn wa
  have HTa := Lib.hid hta
  clear hp hta
  go_wp2_with fail
  refine hn.mono ?_
  rintro e w0 ⟨g, gr, gw, rfl, h0, ht0, hg, hgr, hgw⟩
  have HT0 := Lib.hid (HTa.out.trans ht0)
  have HO : Hid (∀ j ∈ [g, gr, gw], j ∈ ([] : List Nat) ∨ w.heap.size ≤ j) := Lib.hid (by have := HTa.out.size; intro j hj; simp at hj; omega)
  clear hn ht0 hg hgr hgw

  go_wp2_with fail
  refine (pactive_at w0 g gr gw (PS.mk 3 1 60 false 0 0 128 1000 256 1000 0 1 0 10 15 false) 0 true h0 rfl).mono ?_
  rintro e w1 ⟨rfl, m1, rfl⟩
  have h1 := h0.drawn m1
  have HT1 := Lib.hid (HT0.out.drewN m1)
  clear h0
  go_wp2_with fail
  refine (prto_at (w0.drewN m1) g gr gw (PS.mk 3 1 60 false 0 0 128 1000 256 1000 0 1 0 10 15 false) 0 3 h1 rfl).mono ?_
  rintro e w' ⟨rfl, rfl⟩
  go_wp2_with fail
  refine (psize_at (w0.drewN m1) g gr gw (PS.mk 3 1 60 false 0 0 128 1000 256 1000 0 1 0 10 15 false) 0 256 h1 rfl).mono ?_
  rintro e w' ⟨rfl, rfl⟩
  go_wp2_with fail
  refine (pwhen_at (w0.drewN m1) g gr gw (PS.mk 3 1 60 false 0 0 128 1000 256 1000 0 1 0 10 15 false) 0 15 h1 rfl).mono ?_
  rintro e w' ⟨rfl, rfl⟩
  go_wp2_with fail
  refine (pbeat_at (w0.drewN m1) g gr gw (PS.mk 3 1 60 false 0 0 128 1000 256 1000 0 1 0 10 15 false) (PS.mk 3 1 60 false 0 0 128 1000 256 1000 0 1 0 10 15 false) 0 14 false  h1 (by decide) rfl).mono ?_
  rintro e w2 ⟨rfl, h2, ht2⟩
  have HT2 := Lib.hid (HT1.out.over ht2 HO.out)
  clear h1 ht2
  go_wp2_with fail
  refine (pbeat_at w2 g gr gw (PS.mk 3 1 60 false 0 0 128 1000 256 1000 0 1 0 10 15 false) (PS.mk 3 1 60 false 0 0 128 1000 256 1000 0 1 0 10 28 true) 0 15 true  h2 (by decide) rfl).mono ?_
  rintro e w3 ⟨rfl, h3, ht3⟩
  have HT3 := Lib.hid (HT2.out.over ht3 HO.out)
  clear h2 ht3
  go_wp2_with fail
  refine (pwhen_at w3 g gr gw (PS.mk 3 1 60 false 0 0 128 1000 256 1000 0 1 0 10 28 true) 0 28 h3 rfl).mono ?_
  rintro e w' ⟨rfl, rfl⟩
  go_wp2_with fail
  refine (pbeat_at w3 g gr gw (PS.mk 3 1 60 false 0 0 128 1000 256 1000 0 1 0 10 28 true) (PS.mk 6 1 60 false 0 0 128 1000 256 1000 0 1 1 10 44 true) 0 28 true  h3 (by decide) rfl).mono ?_
  rintro e w4 ⟨rfl, h4, ht4⟩
  have HT4 := Lib.hid (HT3.out.over ht4 HO.out)
  clear h3 ht4
  go_wp2_with fail
  refine (pfailures_at w4 g gr gw (PS.mk 6 1 60 false 0 0 128 1000 256 1000 0 1 1 10 44 true) 0 1 h4 rfl).mono ?_
  rintro e w' ⟨rfl, rfl⟩
  go_wp2_with fail
  refine (ptimeout_at w4 g gr gw (PS.mk 6 1 60 false 0 0 128 1000 256 1000 0 1 1 10 44 true) (PS.mk 12 1 60 false 0 0 128 1000 128 512 0 1 2 10 44 true) 0  true  h4 (by decide) rfl).mono ?_
  rintro e w5 ⟨rfl, h5, ht5⟩
  have HT5 := Lib.hid (HT4.out.over ht5 HO.out)
  clear h4 ht5
  go_wp2_with fail
  refine (pactive_at w5 g gr gw (PS.mk 12 1 60 false 0 0 128 1000 128 512 0 1 2 10 44 true) 0 false h5 rfl).mono ?_
  rintro e w6 ⟨rfl, m6, rfl⟩
  have h6 := h5.drawn m6
  have HT6 := Lib.hid (HT5.out.drewN m6)
  clear h5
  go_wp2_with fail
  refine (psize_at (w5.drewN m6) g gr gw (PS.mk 12 1 60 false 0 0 128 1000 128 512 0 1 2 10 44 true) 0 128 h6 rfl).mono ?_
  rintro e w' ⟨rfl, rfl⟩
  go_wp2_with fail
  refine (pbeaten_at (w5.drewN m6) g gr gw (PS.mk 12 1 60 false 0 0 128 1000 128 512 0 1 2 10 44 true) (PS.mk 6 1 60 true 16 4 128 1000 128 512 0 1 0 10 44 false) 0 28 30 true (by decide) (by decide) h6 (by decide) rfl).mono ?_
  rintro e w7 ⟨rfl, h7, ht7⟩
  have HT7 := Lib.hid (HT6.out.over ht7 HO.out)
  clear h6 ht7
  go_wp2_with fail
  refine (pactive_at w7 g gr gw (PS.mk 6 1 60 true 16 4 128 1000 128 512 0 1 0 10 44 false) 0 true h7 rfl).mono ?_
  rintro e w8 ⟨rfl, m8, rfl⟩
  have h8 := h7.drawn m8
  have HT8 := Lib.hid (HT7.out.drewN m8)
  clear h7
  go_wp2_with fail
  refine (prto_at (w7.drewN m8) g gr gw (PS.mk 6 1 60 true 16 4 128 1000 128 512 0 1 0 10 44 false) 0 6 h8 rfl).mono ?_
  rintro e w' ⟨rfl, rfl⟩
  go_wp2
  go_ret
  exact ⟨rfl, HT8.out⟩
end Go.Proofs.Ytkgfogepbclhkaa
