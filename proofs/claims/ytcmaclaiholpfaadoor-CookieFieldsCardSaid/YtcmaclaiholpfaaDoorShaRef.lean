/-
  The reference of layer 6: its small functions.
-/
import Derived.Test.YtcmaclaiholpfaaDoorChecked
import Derived.Test.YtcmaclaiholpfaaDoorShaMath
import Derived.Test.YtcmaclaiholpfaaDoorBlk32
import Derived.Laws.BitsAllLaws
import Derived.Handy
import Derived.BigQuiet
import Derived.Deep.QuietTactic
import Derived.StillTailTactics
import Derived.Outline
namespace Go.Proofs.YtcmaclaiholpfaaDoor
open Go.RowKit
set_option linter.unusedVariables false

theorem rotr_lt {x n : Nat} (hx : x < 4294967296) : rotr x n < 4294967296 := by
  unfold rotr
  refine Nat.or_lt_two_pow (n := 32) ?_ ?_
  · exact Nat.lt_of_le_of_lt (Nat.div_le_self _ _) hx
  · exact Nat.mod_lt _ (by omega)

theorem lt32_pow {x : Nat} (h : x < 4294967296) : x < 2 ^ 32 := h
theorem xor_lt {a b : Nat} (ha : a < 4294967296) (hb : b < 4294967296) : a ^^^ b < 4294967296 := Nat.xor_lt_two_pow (n := 32) ha hb
theorem and_lt {a b : Nat} (ha : a < 4294967296) : a &&& b < 4294967296 := Nat.lt_of_le_of_lt Nat.and_le_left ha
theorem div_lt {a : Nat} (ha : a < 4294967296) (k : Nat) : a / k < 4294967296 := Nat.lt_of_le_of_lt (Nat.div_le_self _ _) ha
theorem cast_div (x k : Nat) : (x : Int) / (k : Int) = ((x / k : Nat) : Int) := by push_cast; rfl
theorem sig0_cast {x : Nat} (hx : x < 4294967296) : bits .xor .u32 (bits .xor .u32 ((rotr x 7 : Nat) : Int) ((rotr x 18 : Nat) : Int)) ((x : Int) / 8) = ((sig0 x : Nat) : Int) := by
  rw [u32_xor_nat _ _ (rotr_lt hx) (rotr_lt hx), show (x : Int) / 8 = ((x / 8 : Nat) : Int) from cast_div x 8, u32_xor_nat _ _ (xor_lt (rotr_lt hx) (rotr_lt hx)) (div_lt hx 8)]
  rfl
theorem sig1_cast {x : Nat} (hx : x < 4294967296) : bits .xor .u32 (bits .xor .u32 ((rotr x 17 : Nat) : Int) ((rotr x 19 : Nat) : Int)) ((x : Int) / 1024) = ((sig1 x : Nat) : Int) := by
  rw [u32_xor_nat _ _ (rotr_lt hx) (rotr_lt hx), show (x : Int) / 1024 = ((x / 1024 : Nat) : Int) from cast_div x 1024, u32_xor_nat _ _ (xor_lt (rotr_lt hx) (rotr_lt hx)) (div_lt hx 1024)]
  rfl
theorem cast_sum4 (a b c d M : Nat) : ((a : Int) + (b : Int) + (c : Int) + (d : Int)) % (M : Int) = (((a + b + c + d) % M : Nat) : Int) := by push_cast; rfl
theorem cast_pow_mod (x m M : Nat) : ((x : Int) * 2 ^ m % (M : Int)) = ((x * 2 ^ m % M : Nat) : Int) := by push_cast; rfl
theorem right_any (w : World) (x n : Nat) (hx : x < 4294967296) (h1 : 1 ≤ n) (h2 : n ≤ 31) :
    Calls Tryd.prog 50 #[.int .u32 x, .int .i64 n] w fun e w' => e = .returned (.int .u32 (rotr x n : Nat)) ∧ w = w' := by
  go_enter Tryd.func50, Tryd.ntmps50
  go_wp2
  have e : bits .or .u32 ((x : Int) / 2 ^ n) ((x : Int) * 2 ^ (32 - n) % 4294967296) = ((rotr x n : Nat) : Int) := by
    have e1 : ((x : Int) / 2 ^ n) = ((x / 2 ^ n : Nat) : Int) := by push_cast; rfl
    have e2 : ((x : Int) * 2 ^ (32 - n) % 4294967296) = ((x * 2 ^ (32 - n) % 4294967296 : Nat) : Int) := cast_pow_mod x (32 - n) 4294967296
    rw [e1, e2, u32_or_nat _ _ (Nat.lt_of_le_of_lt (Nat.div_le_self _ _) hx) (Nat.mod_lt _ (by omega))]
    rfl
  rw [e]
  go_ret
  exact ⟨rfl, rfl⟩
end Go.Proofs.YtcmaclaiholpfaaDoor
