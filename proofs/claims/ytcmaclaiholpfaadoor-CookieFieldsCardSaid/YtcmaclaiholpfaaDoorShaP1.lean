/-
  The program's sha: the small functions.
-/
import Derived.Test.YtcmaclaiholpfaaDoorShaRef
import Derived.Test.YtcmaclaiholpfaaDoorMgA
import Derived.RegionTactic
namespace Go.Proofs.YtcmaclaiholpfaaDoor
open Go.RowKit
set_option linter.unusedVariables false

theorem pright_any (w : World) (x n : Nat) (hx : x < 4294967296) (h1 : 1 ≤ n) (h2 : n ≤ 31) :
    Calls Tryd.prog 59 #[.int .u32 x, .int .i64 n] w fun e w' => e = .returned (.int .u32 (rotr x n : Nat)) ∧ ∃ m, w' = w.drewN m := by
  have w32 : IntKind.i64.wrap (32 - (n : Int)) = 32 - (n : Int) := by rw [IntKind.wrap_i64]; omega
  have g1 : (0 : Int) ≤ 32 - (n : Int) := by omega
  have g2 : (32 - (n : Int)).toNat = 32 - n := by omega
  go_enter Tryd.func59, Tryd.ntmps59
  go_wp2
  go_region
  have e : bits .or .u32 ((x : Int) / 2 ^ n) ((x : Int) * 2 ^ (32 - n) % 4294967296) = ((rotr x n : Nat) : Int) := by
    have e1 : ((x : Int) / 2 ^ n) = ((x / 2 ^ n : Nat) : Int) := by push_cast; rfl
    have e2 : ((x : Int) * 2 ^ (32 - n) % 4294967296) = ((x * 2 ^ (32 - n) % 4294967296 : Nat) : Int) := cast_pow_mod x (32 - n) 4294967296
    rw [e1, e2, u32_or_nat _ _ (Nat.lt_of_le_of_lt (Nat.div_le_self _ _) hx) (Nat.mod_lt _ (by omega))]
    rfl
  go_wp2
  rw [e]
  go_ret
  exact ⟨rfl, 1, rfl⟩
theorem pright_q (w : World) (j x n : Nat) (hx : x < 4294967296) (h1 : 1 ≤ n) (h2 : n ≤ 31) :
    Calls Tryd.prog 59 #[.int .u32 x, .int .i64 n] (w.drewN j) fun e w' => e = .returned (.int .u32 (rotr x n : Nat)) ∧ ∃ m, w' = w.drewN m :=
  (pright_any (w.drewN j) x n hx h1 h2).mono fun e w' ⟨h, m, hw⟩ => ⟨h, j + m, by rw [hw, World.drewN_drewN]⟩
theorem pright_q2 (w : World) (q j x n : Nat) (hx : x < 4294967296) (h1 : 1 ≤ n) (h2 : n ≤ 31) :
    Calls Tryd.prog 59 #[.int .u32 x, .int .i64 n] (w.drewN (q + j)) fun e w' => e = .returned (.int .u32 (rotr x n : Nat)) ∧ ∃ m, w' = w.drewN (q + m) :=
  (pright_any (w.drewN (q + j)) x n hx h1 h2).mono fun e w' ⟨h, m, hw⟩ => ⟨h, j + m, by rw [hw, World.drewN_drewN, Nat.add_assoc]⟩
end Go.Proofs.YtcmaclaiholpfaaDoor
