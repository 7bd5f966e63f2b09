/-
  The document's own answers for layer 4: shift.
-/
import Derived.Test.YtjdkbcecnlfhjaaSpRef2
namespace Go.Proofs.Ytjdkbcecnlfhjaa
open Go.RowKit
set_option linter.unusedVariables false

theorem still_skip {o : Oper} {ops : Array Oper} {a : Act} {X : Prop} {K : Act → Prop} (hw : Region.wanted o (yielded ops a.tmps) = false) (h : K (a.put o.dst undef)) : if Region.wanted o (yielded ops a.tmps) then X else K (a.put o.dst undef) := by
  rw [hw]; exact h

set_option maxRecDepth 100000 in
set_option maxHeartbeats 800000 in
theorem shift_any (w : World) (rb : Nat) (base : Int) (f : Nat → Bool) (h : IsRef w rb base f) (n : Nat) (hn : n ≤ 4096) :
    Calls Try.prog 33 #[.pointer (some ⟨rb, 0, none⟩), .int .i64 (n : Int)] w fun e w' => e = .returned (.tuple #[]) ∧ IsRef w' rb ((base + n) % 4294967296) (shf n f) ∧ Turn [rb] w w' := by
  have hsup := Lib.hid h.sup
  have HH := Lib.hid h
  have hin := h.in
  clear h
  go_enter Try.func33, Try.ntmps33
  go_wp2
  go_loopw [4] (fun i wr => ∃ (j : Nat) (g : Nat → Bool), 1 ≤ j ∧ j ≤ 4097 ∧ i = .int .i64 (j : Int) ∧ IsRef wr rb base g ∧ Hid (∀ d, g d = if 1 ≤ d ∧ d < j then f (d + n) else f d) ∧ Turn [rb] w wr) (fun i _ => 4097 - (intOf i).toNat)
  case atStart => exact ⟨1, f, by omega, by omega, rfl, HH.out, Lib.hid (fun d => by rw [if_neg (by omega)]), Turn.refl _ _⟩
  case round =>
    obtain ⟨j, g, hj0, hj1, rfl, href, hg, hturn⟩ := hrel
    have HREF := Lib.hid href
    have HTURN := Lib.hid hturn
    by_cases hlt : j ≤ 4096
    · have hb0 : (0 : Int) ≤ (j : Int) := by omega
      have hb1 : (j : Int) < 4097 := by omega
      have d1 := href.cell j hlt
      have d2 := href.free (1 + j)
      have hgj : g j = f j := by rw [hg.out j, if_neg (by omega)]
      have hnew : ∀ b, b = f (j + n) → ∃ g', (∀ d, g' d = if d = j then b else g d) ∧ Sup g' ∧ ∀ d, g' d = if 1 ≤ d ∧ d < j + 1 then f (d + n) else f d := by
        intro b hb
        refine ⟨fun d => if d = j then b else g d, fun d => rfl, fun d hd => ?_, fun d => ?_⟩
        · simp only at hd
          split at hd
          · omega
          · exact href.sup d hd
        · show (if d = j then b else g d) = _
          by_cases e : d = j
          · subst e
            rw [if_pos rfl, if_pos (by omega), hb]
          · rw [if_neg e, hg.out d]
            by_cases e2 : 1 ≤ d ∧ d < j
            · rw [if_pos e2, if_pos (by omega)]
            · rw [if_neg e2, if_neg (by omega)]
      have HNEW := Lib.hid hnew
      obtain ⟨t, ht⟩ : ∃ t, j + n = t := ⟨_, rfl⟩
      have hw : IntKind.i64.wrap ((j : Int) + (n : Int)) = (t : Int) := by rw [IntKind.wrap_i64]; omega
      have hgt : g t = f t ∨ 4096 < t := by
        by_cases e : 4096 < t
        · exact .inr e
        · left
          rw [hg.out]
          by_cases e : n = 0
          · rw [if_neg (by omega)]
          · rw [if_neg (by omega)]
      have HGT := Lib.hid hgt
      have HT := Lib.hid ht
      have HREF2 : Hid (∀ d, d ≤ 4096 → wr.cell? ⟨rb, 1 + d, none⟩ = some (.bool (g d))) := href.cell
      clear hgt hgj hnew href hturn hg
      by_cases hjn : t ≤ 4096
      · have d3 := HREF2.out t hjn
        have hgn : g t = f t := by rcases HGT.out with e | e <;> first | exact e | omega
        rw [hgn] at d3
        have e1 : decide ((t : Int) ≤ 4096) = true := by simp; omega
        have hc0 : (0 : Int) ≤ (t : Int) := by omega
        have hc1 : (t : Int) < 4097 := by omega
        obtain ⟨g', hg1, hg2, hg3⟩ := HNEW.out (f t) (by rw [HT.out])
        have HG1 := Lib.hid hg1
        have HG3 := Lib.hid hg3
        clear hgn ht hg1 hg3
        go_wp2
        go_still_tail 19, (by kernel_rfl)
        change wpList _ _ _ _ _ wr.drew
        go_wp2
        go_roundw
        case rel => exact ⟨j + 1, g', by omega, by omega, by go_num, HREF.out.drew.store j hlt (f t) g' hg2 HG1.out, HG3, (HTURN.out.drew).setCell (p := ⟨rb, 1 + j, none⟩) (by simp) _⟩
        case measure => simp [intOf]; omega
      · have e1 : decide ((t : Int) ≤ 4096) = false := by simp; omega
        obtain ⟨g', hg1, hg2, hg3⟩ := HNEW.out false (by rw [HT.out]; exact (hsup.out.far (by omega : 4096 < t)).symm)
        have HG1 := Lib.hid hg1
        have HG3 := Lib.hid hg3
        clear ht hg1 hg3
        go_wp2
        refine wp_region_still_tail 19 (by kernel_rfl) (by kernel_rfl) ?_
        simp only [List.take_succ_cons, List.take_zero, List.drop_succ_cons, List.drop_zero]
        iterate 7 still_step
        iterate 8
          with_reducible refine wpStill_step (fun K hK => ?_)
          with_reducible refine still_skip ?hs ?_
          case hs => rfl
          simp only [Act.put, List.setIfInBounds_toArray, List.set_cons_succ, List.set_cons_zero]
          with_reducible refine hK _ ?_
          clear hK K
        iterate 4 still_step
        refine wpStill_nil ?_
        change wpList _ _ _ _ _ wr.drew
        go_wp2
        go_roundw
        case rel => exact ⟨j + 1, g', by omega, by omega, by go_num, HREF.out.drew.store j hlt false g' hg2 HG1.out, HG3, (HTURN.out.drew).setCell (p := ⟨rb, 1 + j, none⟩) (by simp) _⟩
        case measure => simp [intOf]; omega
    · have hgs : g = shf n f := by
        funext d
        rw [hg.out d]
        unfold shf
        by_cases e : 1 ≤ d
        · by_cases e2 : d < j
          · rw [if_pos ⟨e, e2⟩]; simp [e]
          · rw [if_neg (by omega), hsup.out.far (by omega : 4096 < d), hsup.out.far (by omega : 4096 < d + n)]; simp
        · have e0 : d = 0 := by omega
          subst e0
          rw [if_neg (by omega), hsup.out.zero]; simp
      have HGS := Lib.hid hgs
      have c0 := href.c0
      have f0 := href.free 0
      have hww : IntKind.u32.wrap (n : Int) = (n : Int) := by show (n : Int) % 4294967296 = n; omega
      clear hgs href hturn hg
      go_wp2
      go_end0
      refine ⟨rfl, ?_, HTURN.out.setCell (p := ⟨rb, 0, none⟩) (by simp) _⟩
      have := HREF.out.rebase ((base + (n : Int)) % 4294967296) (by omega)
      rw [HGS.out] at this
      exact this

end Go.Proofs.Ytjdkbcecnlfhjaa
