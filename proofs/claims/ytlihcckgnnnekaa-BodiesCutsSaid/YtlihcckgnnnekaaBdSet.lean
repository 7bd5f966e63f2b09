/-
  Stage 9: rows of bytes beside boxes that are stored into; a cut of bytes up to the end.
-/
import Derived.Test.YtlihcckgnnnekaaBdPutD
import Derived.Test.YtlihcckgnnnekaaBdChk
namespace Go.Proofs.Ytlihcckgnnnekaa
open Go.RowKit
set_option linter.unusedVariables false

theorem Row8.setAt {base : Nat} {w : World} {a : Option Addr} {n c : Nat} {zs : List Int} (h : Row8 base w a n c zs) {g : Nat} {T : TypeId} {cs : List Value} (hA : Arr w g T cs) (hT : T ≠ 5) (i : Nat) (v : Value) : Row8 base (w.setCell ⟨g, i, none⟩ v) a n c zs := by
  refine h.keep_of (fun g' _ _ cs' hk => Below.heap_setCell _ _ _ _ (fun e => ?_))
  simp only at e
  subst e
  unfold Arr at hA
  rw [hA] at hk
  simp at hk
  exact hT hk.2

/-- The bytes from 12 on, or none. -/
theorem cut12 (p : Option Addr) (n c : Nat) (zs : List Int) (W : World) (hr : Reads W p n zs) (hc : n ≤ c) (hn : n ≤ 281474976) :
    Calls Try.prog 51 #[.slice p n c, .int .i64 12, .int .i64 ((n : Int) - 12)] W fun e w' => ∃ a1 c1 b, e = .returned (.tuple #[.slice a1 (n - 12) c1, .bool b]) ∧ Below W.heap.size W w' ∧ Row8 W.heap.size w' a1 (n - 12) c1 (zs.drop 12) := by
  by_cases h : 12 ≤ n
  · have h1 := cut_yes p n c 12 (n - 12) zs W hr hc (by omega) (by omega)
    rw [show ((n - 12 : Nat) : Int) = (n : Int) - 12 by omega] at h1
    refine h1.mono ?_
    rintro e w' ⟨rfl, hb, hk⟩
    rw [List.take_of_length_le (by simp [hr.1])] at hk
    exact ⟨_, _, _, rfl, hb, Row8.of_blk hk (Nat.le_refl _) (by simp [hr.1]) (by unfold maxLen; omega)⟩
  · refine (cut_no p n c 12 ((n : Int) - 12) W (by omega) (by omega) ?_).mono ?_
    · cases hh : hasB n 12 ((n : Int) - 12) with
      | false => rfl
      | true => have := (hasB_iff n 12 ((n : Int) - 12)).1 hh; omega
    · rintro e w' ⟨rfl, rfl⟩
      have h0 : n - 12 = 0 := by omega
      have h1 : zs.drop 12 = [] := List.drop_eq_nil_of_le (by rw [hr.1]; omega)
      rw [h0, h1]
      exact ⟨none, 0, false, rfl, Below.refl _ _, Row8.nil _ _⟩
end Go.Proofs.Ytlihcckgnnnekaa
