/-
  The document's own answers for layer 4: Add, Count, Last, shift, Settle, Move.
-/
import Derived.Test.YtjdkbcecnlfhjaaSpRef
import Derived.Test.YtjdkbcecnlfhjaaSpSame
namespace Go.Proofs.Ytjdkbcecnlfhjaa
open Go.RowKit
set_option linter.unusedVariables false

theorem IsRef.drew {w : World} {rb : Nat} {base : Int} {f : Nat → Bool} (h : IsRef w rb base f) : IsRef w.drew rb base f := ⟨h.lt, h.lo, h.hi, h.sup, h.c0, h.cell, h.free⟩
/-- A store into one of its bools. -/
theorem IsRef.store {w : World} {rb : Nat} {base : Int} {f : Nat → Bool} (h : IsRef w rb base f) (D : Nat) (hD : D ≤ 4096) (b : Bool) (g : Nat → Bool) (hg : Sup g) (hfg : ∀ d, g d = if d = D then b else f d) :
    IsRef (w.setCell ⟨rb, 1 + D, none⟩ (.bool b)) rb base g := by
  refine ⟨by simpa [World.setCell] using h.lt, h.lo, h.hi, hg, ?_, fun d hdl => ?_, fun i => ?_⟩
  · rw [World.cell?_setCell_other _ _ _ _ (by first | (simp; done) | (simp; omega))]; exact h.c0
  · by_cases e : d = D
    · subst e
      rw [World.cell?_setCell_same _ _ _ (h.cell d hD), hfg d, if_pos rfl]
    · rw [World.cell?_setCell_other _ _ _ _ (by first | (simp; done) | (simp; omega)), hfg d, if_neg e]
      exact h.cell d hdl
  · rw [World.frozen?_setCell]; exact h.free i
theorem IsRef.rebase {w : World} {rb : Nat} {base : Int} {f : Nat → Bool} (h : IsRef w rb base f) (x : Int) (hx : 0 ≤ x ∧ x < 4294967296) :
    IsRef (w.setCell ⟨rb, 0, none⟩ (.int .u32 x)) rb x f := by
  refine ⟨by simpa [World.setCell] using h.lt, hx.1, hx.2, h.sup, ?_, fun d hdl => ?_, fun i => ?_⟩
  · rw [World.cell?_setCell_same _ _ _ h.c0]
  · rw [World.cell?_setCell_other _ _ _ _ (by first | (simp; done) | (simp; omega))]
    exact h.cell d hdl
  · rw [World.frozen?_setCell]; exact h.free i

set_option maxRecDepth 100000 in
theorem radd_any (w : World) (rb : Nat) (base x : Int) (f : Nat → Bool) (h : IsRef w rb base f) (hx : 0 ≤ x ∧ x ≤ 4294967295) :
    Calls Try.prog 13 #[.pointer (some ⟨rb, 0, none⟩), .int .u32 x] w fun e w' => e = .returned (.bool (near (dist base x) && !f (dist base x))) ∧ IsRef w' rb base (addF f (dist base x)) ∧ Turn [rb] w w' := by
  have c0 := h.c0
  have hin := fun j => rin_any x base (w.drewN j) hx h.in
  have hb := h.in
  have hsup := h.sup
  cases hn : near (dist base x)
  · rw [hn] at hin
    have HIN := Lib.hid hin
    have HH := Lib.hid h
    have HA : Hid (addF f (dist base x) = f) := by show _ = _; unfold addF; rw [hn]; rfl
    clear h hn hin hsup
    go_enter Try.func13, Try.ntmps13
    go_wp2
    go_quiet ((go_at_call 31; exact quiet_left (HIN.out _)))
    go_wp2
    go_ret
    exact ⟨rfl, by rw [HA.out]; exact HH.out.turn (bs := []) ((Turn.refl _ _).drewN _) (by simp), (Turn.refl _ _).drewN _⟩
  · rw [hn] at hin
    have hd := (near_iff _).1 hn
    have hcell := h.cell (dist base x) hd.2
    have hdd : IntKind.u32.wrap (x - base) = (dist base x : Int) := by show (x - base) % 4294967296 = _; unfold dist; omega
    have hb1 : ((dist base x : Nat) : Int) < 4097 := by omega
    have hb0 : (0 : Int) ≤ ((dist base x : Nat) : Int) := by omega
    generalize hD : dist base x = D at *
    have HIN := Lib.hid hin
    have HH := Lib.hid h
    have HDD := Lib.hid hD
    have HNN := Lib.hid hn
    have hfree := h.free (1 + D)
    clear h hn hin hD
    cases hf : f D
    · rw [hf] at hcell
      have HA : Hid (addF f D = ins f D) := by show _ = _; unfold addF; rw [HNN.out, hf]; rfl
      clear hf
      go_enter Try.func13, Try.ntmps13
      go_wp2
      go_quiet ((go_at_call 31; exact quiet_left (HIN.out _)))
      go_wp2
      have hT : Turn [rb] w (w.drewN nq) := (Turn.refl _ _).drewN _
      have HT := Lib.hid hT
      have hW : IsRef (w.drewN nq) rb base f := HH.out.turn (bs := []) ((Turn.refl _ _).drewN _) (by simp)
      have HW := Lib.hid hW
      have d0 : (w.drewN nq).cell? ⟨rb, 0, none⟩ = some (.int .u32 base) := hW.c0
      have d1 : (w.drewN nq).cell? ⟨rb, 1 + D, none⟩ = some (.bool false) := hcell
      have d2 : (w.drewN nq).frozen? ⟨rb, 1 + D, none⟩ = false := hfree
      clear hT hW c0 hcell hfree
      generalize w.drewN nq = W at *
      go_still_tail 10, (by kernel_rfl)
      change wpList _ _ _ _ _ W.drew
      go_wp2
      go_ret
      refine ⟨rfl, ?_, (HT.out.drew).setCell (p := ⟨rb, 1 + D, none⟩) (by simp) _⟩
      rw [HA.out]
      refine (HW.out.store D (by omega) true (ins f D) (HW.out.sup.ins hd.1 hd.2) (fun d => ?_)).drew
      unfold ins
      by_cases e : d = D
      · simp [e]
      · simp [e]
    · rw [hf] at hcell
      have HA : Hid (addF f D = f) := by show _ = _; unfold addF; rw [HNN.out, hf]; rfl
      clear hf
      go_enter Try.func13, Try.ntmps13
      go_wp2
      go_quiet ((go_at_call 31; exact quiet_left (HIN.out _)))
      go_wp2
      go_ret
      exact ⟨rfl, by rw [HA.out]; exact HH.out.turn (bs := []) ((Turn.refl _ _).drewN _) (by simp), (Turn.refl _ _).drewN _⟩

set_option maxRecDepth 100000 in
theorem rcount_any (w : World) (rb : Nat) (base : Int) (f : Nat → Bool) (h : IsRef w rb base f) :
    Calls Try.prog 25 #[.pointer (some ⟨rb, 0, none⟩)] w fun e w' => e = .returned (.int .i64 (cnt f)) ∧ w = w' := by
  have HH := Lib.hid h
  clear h
  go_enter Try.func25, Try.ntmps25
  go_wp2
  go_loop [3, 4] (fun n i => ∃ j : Nat, 1 ≤ j ∧ j ≤ 4097 ∧ n = .int .i64 ((cntTo f (j - 1) : Nat) : Int) ∧ i = .int .i64 (j : Int)) (fun _ i => 4097 - (intOf i).toNat)
  case atStart => exact ⟨1, by omega, by omega, rfl, rfl⟩
  case round =>
    obtain ⟨j, hj0, hj1, rfl, rfl⟩ := hrel
    have hcl := cntTo_le f (j - 1)
    by_cases hlt : j ≤ 4096
    · have hcell := HH.out.cell j hlt
      have hs : cntTo f (j + 1 - 1) = cntTo f (j - 1) + if f j = true then 1 else 0 := by
        have := cntTo_succ f (j - 1)
        rw [show j - 1 + 1 = j by omega] at this
        rw [show j + 1 - 1 = j by omega]; exact this
      have HS := Lib.hid hs
      clear hs
      have hb0 : (0 : Int) ≤ (j : Int) := by omega
      have hb1 : (j : Int) < 4097 := by omega
      generalize cntTo f (j - 1) = c at *
      cases hf : f j
      all_goals
        rw [hf] at hcell
        have HF := Lib.hid hf
        clear hf
        go_wp2
        go_round
        case rel =>
          refine ⟨j + 1, by omega, by omega, ?_, by go_num⟩
          rw [HS.out, HF.out]
          first | rfl | simp
        case measure => simp [intOf]; omega
    · obtain rfl : j = 4097 := by omega
      go_wp2
      go_ret
      exact ⟨rfl, rfl⟩

set_option maxRecDepth 100000 in
theorem rlast_any (w : World) (rb : Nat) (base : Int) (f : Nat → Bool) (h : IsRef w rb base f) (m : Nat) (hm : Lst f m) (x : Int) (hx : (base + m) % 4294967296 = x) :
    Calls Try.prog 27 #[.pointer (some ⟨rb, 0, none⟩)] w fun e w' => e = .returned (.int .u32 x) ∧ w = w' := by
  have c0 := h.c0
  have hin := h.in
  have hml := hm.le h.sup
  have HH := Lib.hid h
  have HM := Lib.hid hm
  have HX := Lib.hid hx
  clear h hm hx
  go_enter Try.func27, Try.ntmps27
  go_wp2
  go_loop [3] (fun i => ∃ j : Nat, j ≤ 4096 ∧ i = .int .i64 (j : Int) ∧ Hid (∀ d, f d = true → d ≤ j)) (fun i => (intOf i).toNat)
  case atStart => exact ⟨4096, by omega, rfl, Lib.hid (fun d hd => (HH.out.sup d hd).2)⟩
  case round =>
    obtain ⟨j, hj, rfl, hall⟩ := hrel
    by_cases hlt : 1 ≤ j
    · have hcell := HH.out.cell j hj
      have hb0 : (0 : Int) ≤ (j : Int) := by omega
      have hb1 : (j : Int) < 4097 := by omega
      have hb2 : (1 : Int) ≤ (j : Int) := by omega
      cases hf : f j
      · rw [hf] at hcell
        have HF := Lib.hid hf
        clear hf
        go_wp2
        go_round
        case rel =>
          refine ⟨j - 1, by omega, by congr 1; omega, Lib.hid (fun d hd => ?_)⟩
          have h1 := hall.out d hd
          by_cases e : d = j
          · subst e; rw [HF.out] at hd; cases hd
          · omega
        case measure => simp [intOf]; omega
      · rw [hf] at hcell
        have hjm : Hid (j = m) := by
          show j = m
          have h1 := HM.out.2 j hf
          rcases HM.out.1 with e | e
          · omega
          · have := hall.out m e; omega
        clear hf
        go_wp2
        go_ret
        exact ⟨by rw [← HX.out, ← hjm.out]; rfl, rfl⟩
    · have hm0 : Hid (m = 0) := by
        show m = 0
        rcases HM.out.1 with e | e
        · exact e
        · have := hall.out m e; omega
      obtain rfl : j = 0 := by omega
      go_wp2
      go_ret
      refine ⟨?_, rfl⟩
      have hxx : x = base := by rw [← HX.out, hm0.out]; omega
      rw [hxx]; rfl

end Go.Proofs.Ytjdkbcecnlfhjaa
