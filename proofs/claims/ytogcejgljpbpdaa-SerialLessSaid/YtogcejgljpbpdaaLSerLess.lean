/-
  The walk of SerialLess.
-/
import Derived.Test.YtogcejgljpbpdaaSerWorks
namespace Go.Proofs.Ytogcejgljpbpdaa
open Go.RowKit
set_option linter.unusedVariables false

theorem serialLess_walk (a b : Int) (w : World) (ha0 : (Lit.int .u32 a).wf = true) (hb0 : (Lit.int .u32 b).wf = true) :
    Calls Try.prog 4 #[.int .u32 a, .int .u32 b] w fun e w' => e = .returned (.bool true) ∧ w = w' := by
  have ha : 0 ≤ a ∧ a ≤ 4294967295 := by simp [Lit.wf, IntKind.min, IntKind.max, IntKind.signed, IntKind.bits] at ha0; omega
  have hb : 0 ≤ b ∧ b ≤ 4294967295 := by simp [Lit.wf, IntKind.min, IntKind.max, IntKind.signed, IntKind.bits] at hb0; omega
  have hc : 0 ≤ a % 65536 ∧ a % 65536 ≤ 65535 := by omega
  have hd : 0 ≤ b % 65536 ∧ b % 65536 ≤ 65535 := by omega
  clear ha0 hb0
  have c1 := fun W => less_32 a b W ha hb
  have c2 := fun W => rless_32 a b W ha hb
  have c3 := fun W => less_T a b W ha hb
  have c4 := fun W => less_16 (a % 65536) (b % 65536) W hc hd
  have c5 := fun W => rless_16 (a % 65536) (b % 65536) W hc hd
  have c6 := fun W => less_S (a % 65536) (b % 65536) W hc hd
  generalize les 4294967296 2147483648 a b = x at c1 c2 c3
  generalize les 65536 32768 (a % 65536) (b % 65536) = y at c4 c5 c6
  go_enter Try.func4, Try.ntmps4
  go_wp2_with (first
    | (go_at_call 17; refine (c1 _).mono ?_; rintro e w' ⟨rfl, rfl⟩)
    | (go_at_call 18; refine (c2 _).mono ?_; rintro e w' ⟨rfl, rfl⟩)
    | (go_at_call 19; refine (c3 _).mono ?_; rintro e w' ⟨rfl, rfl⟩)
    | (go_at_call 20; refine (c4 _).mono ?_; rintro e w' ⟨rfl, rfl⟩)
    | (go_at_call 21; refine (c5 _).mono ?_; rintro e w' ⟨rfl, rfl⟩)
    | (go_at_call 22; refine (c6 _).mono ?_; rintro e w' ⟨rfl, rfl⟩)
    | (go_at_call 16; refine (works_any _).mono ?_; rintro e w' ⟨rfl, rfl⟩))
  go_ret
  exact ⟨rfl, rfl⟩
end Go.Proofs.Ytogcejgljpbpdaa
