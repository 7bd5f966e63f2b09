/-
  Contracts of package octet's small functions: isSize, has, Round.
-/
import Derived.Test.YtlihcckgnnnekaaChecked
import Derived.Test.YtlihcckgnnnekaaBase
import Derived.Handy
import Derived.BigQuiet
import Derived.Deep.QuietTactic
import Derived.Outline
namespace Go.Proofs.Ytlihcckgnnnekaa
set_option linter.unusedVariables false
open Go.RowKit

/-- A number of bytes that an encoding may have. -/
def sizB (n : Int) : Bool := n == 1 || n == 2 || n == 4 || n == 8
theorem sizB_iff (n : Int) : sizB n = true ↔ (n = 1 ∨ n = 2 ∨ n = 4 ∨ n = 8) := by unfold sizB; simp; omega

theorem isSize_any (n : Int) (w : World) : Calls Try.prog 80 #[.int .i64 n] w fun e w' => e = .returned (.bool (sizB n)) ∧ w = w' := by
  by_cases h1 : n = 1
  · subst h1; go_enter Try.func80, Try.ntmps80; go_wp2; go_ret; exact ⟨rfl, rfl⟩
  by_cases h2 : n = 2
  · subst h2; go_enter Try.func80, Try.ntmps80; go_wp2; go_ret; exact ⟨rfl, rfl⟩
  by_cases h4 : n = 4
  · subst h4; go_enter Try.func80, Try.ntmps80; go_wp2; go_ret; exact ⟨rfl, rfl⟩
  have e1 : (n == 1) = false := by simpa using h1
  have e2 : (n == 2) = false := by simpa using h2
  have e4 : (n == 4) = false := by simpa using h4
  go_enter Try.func80, Try.ntmps80; go_wp2; go_ret; exact ⟨by simp [sizB, e1, e2, e4], rfl⟩

/-- Are there n bytes from at on, of len? -/
def hasB (len : Nat) (at_ n : Int) : Bool := decide (0 ≤ at_) && decide (0 ≤ n) && decide (at_ ≤ (len : Int) - n)
theorem hasB_iff (len : Nat) (at_ n : Int) : hasB len at_ n = true ↔ (0 ≤ at_ ∧ 0 ≤ n ∧ at_ ≤ (len : Int) - n) := by unfold hasB; simp; omega

theorem has_any (a : Option Addr) (len cap : Nat) (at_ n : Int) (w : World) (hl : len ≤ 9223372036854775807) (h2 : n ≤ 9223372036854775807) :
    Calls Try.prog 73 #[.slice a len cap, .int .i64 at_, .int .i64 n] w fun e w' => e = .returned (.bool (hasB len at_ n)) ∧ w = w' := by
  by_cases ha : 0 ≤ at_
  · by_cases hn : 0 ≤ n
    · by_cases hc : at_ ≤ (len : Int) - n
      all_goals
        go_enter Try.func73, Try.ntmps73
        go_wp2
        go_ret
        exact ⟨by simp [hasB, ha, hn, hc], rfl⟩
    · go_enter Try.func73, Try.ntmps73
      go_wp2
      go_ret
      exact ⟨by simp [hasB]; omega, rfl⟩
  · go_enter Try.func73, Try.ntmps73
    go_wp2
    go_ret
    exact ⟨by simp [hasB]; omega, rfl⟩

/-- A length, rounded up to a multiple of 4. -/
def rnd (n : Int) : Int := if n < 0 ∨ 4611686018427387904 < n then 0 else (n + 3) / 4 * 4

theorem rnd_in (n : Int) (h0 : 0 ≤ n) (h1 : n ≤ 4611686018427387904) : rnd n = (n + 3) / 4 * 4 := by unfold rnd; rw [if_neg (by omega)]
theorem rnd_out (n : Int) (h : n < 0 ∨ 4611686018427387904 < n) : rnd n = 0 := by unfold rnd; rw [if_pos h]

theorem round_any (n : Int) (w : World) :
    Calls Try.prog 78 #[.int .i64 n] w fun e w' => e = .returned (.int .i64 (rnd n)) ∧ w = w' := by
  by_cases h0 : n < 0
  · have H := Lib.hid (rnd_out n (.inl h0))
    go_enter Try.func78, Try.ntmps78
    go_wp2
    go_ret
    exact ⟨by rw [H.out]; rfl, rfl⟩
  · by_cases h1 : 4611686018427387904 < n
    · have H := Lib.hid (rnd_out n (.inr h1))
      go_enter Try.func78, Try.ntmps78
      go_wp2
      go_ret
      exact ⟨by rw [H.out]; rfl, rfl⟩
    · have H := Lib.hid (rnd_in n (by omega) (by omega))
      have k0 : 0 ≤ n := by omega
      have k1 : n ≤ 4611686018427387904 := by omega
      have d0 : 0 ≤ (n + 3) / 4 * 4 := by omega
      have d1 : (n + 3) / 4 * 4 ≤ 4611686018427387904 := by omega
      clear h0 h1
      go_enter Try.func78, Try.ntmps78
      go_wp2
      go_ret
      exact ⟨by rw [H.out]; rfl, rfl⟩
end Go.Proofs.Ytlihcckgnnnekaa
