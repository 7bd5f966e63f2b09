/-
  The reference's path: Answered, Sample, Acked, Fast, a failure, Timeout. Written by genpt2.py.
-/
import Derived.Test.YtkgfogepbclhkaaPtR1
import Derived.Test.YtkgfogepbclhkaaPtPut
namespace Go.Proofs.Ytkgfogepbclhkaa
open Go.RowKit
set_option linter.unusedVariables false

section
variable (w : World) (g gr gw : Nat) (p : PS) (c : Nat) (h : RP w g gr gw p c)
include h

theorem rpanswered_any :
    Calls Try.prog 37 #[.pointer (some ⟨g, 0, none⟩)] w fun e w' => e = .returned (.tuple #[]) ∧ RP w' g gr gw p.answered c ∧ Turn [g] w w' := by
  have hlt := h.blk.lt
  have c0 := h.blk.cell (i := 2) rfl
  have c1 := h.blk.cell (i := 6) rfl
  have f0 := h.blk.free 2
  have f1 := h.blk.free 6
  have hT : Turn [g] w ((w.setCell ⟨g, 2, none⟩ (.int .i64 0)).setCell ⟨g, 6, none⟩ (.bool false)) := ((Turn.refl _ _).setCell (by simp) _).setCell (by simp) _
  have hA : Arr ((w.setCell ⟨g, 2, none⟩ (.int .i64 0)).setCell ⟨g, 6, none⟩ (.bool false)) g 67 (raC gr gw p.answered) := (h.blk.set 2 _).set 6 _
  have HA := Lib.hid (And.intro (h.put hT hA h.good.answered rfl rfl) hT)
  clear hA hT h
  go_enter Try.func37, Try.ntmps37
  go_wp2
  go_end0
  exact ⟨rfl, HA.out.1, HA.out.2⟩

theorem rpsample_any (t : Int) :
    Calls Try.prog 38 #[.pointer (some ⟨g, 0, none⟩), .int .i64 t] w fun e w' => e = .returned (.tuple #[]) ∧ RP w' g gr gw (p.sample t) c ∧ Turn [g, gr] w w' := by
  have c0 := h.blk.cell (i := 0) rfl
  by_cases ht : t < 0
  · have hq : p.sample t = p := by unfold PS.sample; rw [if_pos ht]
    rw [hq]
    have hs := rsample_neg w gr t ht
    have H := Lib.hid h
    clear h ht hq
    go_enter Try.func38, Try.ntmps38
    go_wp2_with fail
    refine hs.mono ?_
    rintro e w' ⟨rfl, rfl⟩
    go_wp2
    go_end0
    exact ⟨rfl, H.out, Turn.refl _ _⟩
  · have hs := rsample_any w gr _ _ _ _ _ _ t h.rto (by omega)
    have hg := h.good.sample t
    have hq : p.sample t = { p with x := nX (nS p.any p.S (min t 1048576)) (nV p.any p.S p.V (min t 1048576)) p.lo p.hi, any := true, S := nS p.any p.S (min t 1048576), V := nV p.any p.S p.V (min t 1048576) } := by unfold PS.sample; rw [if_neg ht]
    rw [hq] at hg ⊢
    have H := Lib.hid (And.intro h hg)
    clear h ht hq hg
    go_enter Try.func38, Try.ntmps38
    go_wp2_with fail
    refine hs.mono ?_
    rintro e w' ⟨rfl, hE, hT⟩
    have H2 := Lib.hid (And.intro (H.out.1.putE hT hE H.out.2 rfl rfl) hT)
    clear hE hT
    go_wp2
    go_end0
    exact ⟨rfl, H2.out.1, H2.out.2.mono (by simp)⟩

theorem rpacked_any (n : Int) (full : Bool) (hc : c ≤ 1073741824) :
    Calls Try.prog 39 #[.pointer (some ⟨g, 0, none⟩), .int .i64 n, .bool full] w fun e w' => e = .returned (.tuple #[]) ∧ RP w' g gr gw (p.acked n full) (c + 1) ∧ Turn [g, gw] w w' := by
  have c0 := h.blk.cell (i := 1) rfl
  have hs := rwacked_any w gw _ _ _ _ _ _ n full hc h.wnd
  have H := Lib.hid h
  clear h
  go_enter Try.func39, Try.ntmps39
  go_wp2_with fail
  refine hs.mono ?_
  rintro e w' ⟨rfl, hE, hT⟩
  have H2 := Lib.hid (And.intro (H.out.putW (p' := p.acked n full) hT hE (H.out.good.acked n full) rfl rfl) hT)
  clear hE hT
  go_wp2
  go_end0
  exact ⟨rfl, H2.out.1, H2.out.2.mono (by simp)⟩

theorem rpfast_any :
    Calls Try.prog 40 #[.pointer (some ⟨g, 0, none⟩)] w fun e w' => e = .returned (.tuple #[]) ∧ RP w' g gr gw p.fast c ∧ Turn [g, gw] w w' := by
  have c0 := h.blk.cell (i := 1) rfl
  have hs := rwfast_any w gw _ _ _ _ _ _ h.wnd c
  have H := Lib.hid h
  clear h
  go_enter Try.func40, Try.ntmps40
  go_wp2_with fail
  refine hs.mono ?_
  rintro e w' ⟨rfl, hE, hT⟩
  have H2 := Lib.hid (And.intro (H.out.putW (p' := p.fast) hT hE H.out.good.fast rfl rfl) hT)
  clear hE hT
  go_wp2
  go_end0
  exact ⟨rfl, H2.out.1, H2.out.2.mono (by simp)⟩

theorem rpfail_any :
    Calls Try.prog 57 #[.pointer (some ⟨g, 0, none⟩)] w fun e w' => e = .returned (.tuple #[]) ∧ RP w' g gr gw p.fail c ∧ Turn [g, gr] w w' := by
  have hlt := h.blk.lt
  have c0 := h.blk.cell (i := 0) rfl
  have c2 := h.blk.cell (i := 2) rfl
  have c3 := h.blk.cell (i := 3) rfl
  have f0 := h.blk.free 2
  have b1 := h.good.may0
  have b2 := h.good.may1
  have b3 := h.good.bad0
  have b4 := h.good.bad1
  by_cases hl : p.bad ≤ p.may
  · have hm : min p.bad p.may + 1 = p.bad + 1 := by omega
    have hd : decide (p.bad ≤ p.may) = true := by simpa using hl
    have hT : Turn [g] w (w.drew.setCell ⟨g, 2, none⟩ (.int .i64 (p.bad + 1))) := (Turn.refl _ _).drew.setCell (by simp) _
    have hA : Arr (w.drew.setCell ⟨g, 2, none⟩ (.int .i64 (p.bad + 1))) g 67 (raC gr gw { p with bad := min p.bad p.may + 1 }) := by rw [hm]; exact (show Arr w.drew g _ _ from h.blk).set 2 _
    have h1 : RP (w.drew.setCell ⟨g, 2, none⟩ (.int .i64 (p.bad + 1))) g gr gw { p with bad := min p.bad p.may + 1 } c := h.put hT hA { h.good with bad0 := by show (0 : Int) ≤ min p.bad p.may + 1; omega, bad1 := by show min p.bad p.may + 1 ≤ p.may + 1; omega } rfl rfl
    have hs := rback_any _ gr _ _ _ _ _ _ h1.rto
    have H := Lib.hid (And.intro h1 (And.intro hT h.good.fail))
    clear h h1 hA hT hm hl
    go_enter Try.func57, Try.ntmps57
    go_upto_region 0 with fail
    go_region
    go_wp2_with fail
    refine hs.mono ?_
    rintro e w' ⟨rfl, hE, hT⟩
    have H2 := Lib.hid (And.intro (H.out.1.putE (p' := p.fail) hT hE H.out.2.2 rfl rfl) ((H.out.2.1.mono (cs := [g, gr]) (by simp)).trans (hT.mono (by simp))))
    clear hE hT
    go_wp2
    go_end0
    exact ⟨rfl, H2.out.1, H2.out.2⟩
  · have hm : min p.bad p.may + 1 = p.bad := by omega
    have hd : decide (p.bad ≤ p.may) = false := by simpa using hl
    have hT : Turn [g] w w.drew := (Turn.refl _ _).drew
    have hA : Arr w.drew g 67 (raC gr gw { p with bad := min p.bad p.may + 1 }) := by rw [hm]; exact h.blk
    have h1 : RP w.drew g gr gw { p with bad := min p.bad p.may + 1 } c := h.put hT hA { h.good with bad0 := by show (0 : Int) ≤ min p.bad p.may + 1; omega, bad1 := by show min p.bad p.may + 1 ≤ p.may + 1; omega } rfl rfl
    have hs := rback_any _ gr _ _ _ _ _ _ h1.rto
    have H := Lib.hid (And.intro h1 (And.intro hT h.good.fail))
    clear h h1 hA hT hm hl
    go_enter Try.func57, Try.ntmps57
    go_upto_region 0 with fail
    go_region
    go_wp2_with fail
    refine hs.mono ?_
    rintro e w' ⟨rfl, hE, hT⟩
    have H2 := Lib.hid (And.intro (H.out.1.putE (p' := p.fail) hT hE H.out.2.2 rfl rfl) ((H.out.2.1.mono (cs := [g, gr]) (by simp)).trans (hT.mono (by simp))))
    clear hE hT
    go_wp2
    go_end0
    exact ⟨rfl, H2.out.1, H2.out.2⟩

end

theorem rptimeout_any (w : World) (g gr gw : Nat) (p : PS) (c : Nat) (h : RP w g gr gw p c) :
    Calls Try.prog 41 #[.pointer (some ⟨g, 0, none⟩)] w fun e w' => e = .returned (.bool p.tells) ∧ RP w' g gr gw p.timeout c ∧ Turn [g, gr, gw] w w' := by
  have c1 : ∀ m, (w.drewN m).cell? ⟨g, 1, none⟩ = some (.pointer (some ⟨gw, 0, none⟩)) := fun m => h.blk.cell (i := 1) rfl
  have ha1 := rpactive_any w g gr gw p c h
  have hs := fun m => rwtimeout_any (w.drewN m) gw _ _ _ _ _ _ (h.drawn m).wnd c
  have H := Lib.hid h
  clear h
  cases ha : p.active
  case true =>
    have ht : p.tells = (!p.timeout.active) := by unfold PS.tells; rw [ha]; rfl
    rw [ht]
    rw [ha] at ha1
    clear ha ht
    go_enter Try.func41, Try.ntmps41
    go_wp2_with fail
    refine ha1.mono ?_
    rintro e w1 ⟨rfl, m, rfl⟩
    replace hs := hs m
    clear ha1
    go_wp2_with fail
    refine hs.mono ?_
    rintro e w2 ⟨rfl, hW, hT⟩
    have h2 := (H.out.drawn m).putW (p' := p.lost) hT hW H.out.good.lost rfl rfl
    have HT2 := Lib.hid ((((Turn.refl [g, gr, gw] w).drewN m)).trans (hT.mono (cs := [g, gr, gw]) (by simp)))
    clear hs hW hT
    go_wp2_with fail
    refine (rpfail_any w2 g gr gw _ c h2).mono ?_
    rintro e w3 ⟨rfl, h3, hT3⟩
    have HT3 := Lib.hid (HT2.out.trans (hT3.mono (cs := [g, gr, gw]) (by simp)))
    clear h2 hT3 HT2
    go_wp2_with fail
    refine (rpactive_any w3 g gr gw _ c h3).mono ?_
    rintro e w4 ⟨rfl, m4, rfl⟩
    have H4 := Lib.hid (And.intro (h3.drawn m4) (HT3.out.drewN m4))
    clear h3 HT3
    go_wp2
    go_ret
    exact ⟨rfl, H4.out.1, H4.out.2⟩
  case false =>
    have ht : p.tells = false := by unfold PS.tells; rw [ha]; rfl
    rw [ht]
    rw [ha] at ha1
    clear ha ht
    go_enter Try.func41, Try.ntmps41
    go_wp2_with fail
    refine ha1.mono ?_
    rintro e w1 ⟨rfl, m, rfl⟩
    replace hs := hs m
    clear ha1
    go_wp2_with fail
    refine hs.mono ?_
    rintro e w2 ⟨rfl, hW, hT⟩
    have h2 := (H.out.drawn m).putW (p' := p.lost) hT hW H.out.good.lost rfl rfl
    have HT2 := Lib.hid ((((Turn.refl [g, gr, gw] w).drewN m)).trans (hT.mono (cs := [g, gr, gw]) (by simp)))
    clear hs hW hT
    go_wp2_with fail
    refine (rpfail_any w2 g gr gw _ c h2).mono ?_
    rintro e w3 ⟨rfl, h3, hT3⟩
    have HT3 := Lib.hid (HT2.out.trans (hT3.mono (cs := [g, gr, gw]) (by simp)))
    clear h2 hT3 HT2
    have H4 := Lib.hid (And.intro h3 HT3.out)
    clear h3 HT3
    go_wp2
    go_ret
    exact ⟨rfl, H4.out.1, H4.out.2⟩


end Go.Proofs.Ytkgfogepbclhkaa
