/-
  The walk of SerialIn.
-/
import Derived.Test.YtogcejgljpbpdaaSerWorks
namespace Go.Proofs.Ytogcejgljpbpdaa
open Go.RowKit
set_option linter.unusedVariables false

theorem serialIn_walk (a b wd : Int) (w : World) (ha0 : (Lit.int .u32 a).wf = true) (hb0 : (Lit.int .u32 b).wf = true) (hw0 : (Lit.int .i64 wd).wf = true) :
    Calls Try.prog 6 #[.int .u32 a, .int .u32 b, .int .i64 wd] w fun e w' => e = .returned (.bool true) ∧ w = w' := by
  have ha : 0 ≤ a ∧ a ≤ 4294967295 := by simp [Lit.wf, IntKind.min, IntKind.max, IntKind.signed, IntKind.bits] at ha0; omega
  have hb : 0 ≤ b ∧ b ≤ 4294967295 := by simp [Lit.wf, IntKind.min, IntKind.max, IntKind.signed, IntKind.bits] at hb0; omega
  have hw : -9223372036854775808 ≤ wd ∧ wd ≤ 9223372036854775807 := by simp [Lit.wf, IntKind.min, IntKind.max, IntKind.signed, IntKind.bits] at hw0; omega
  have hc : 0 ≤ a % 65536 ∧ a % 65536 ≤ 65535 := by omega
  have hd : 0 ≤ b % 65536 ∧ b % 65536 ≤ 65535 := by omega
  clear ha0 hb0 hw0
  have c1 := fun W => in_32 a b wd W ha hb hw
  have c2 := fun W => rin_32 a b wd W ha hb hw
  have c3 := fun W => in_T a b wd W ha hb hw
  have c4 := fun W => in_16 (a % 65536) (b % 65536) wd W hc hd hw
  have c5 := fun W => rin_16 (a % 65536) (b % 65536) wd W hc hd hw
  have c6 := fun W => in_S (a % 65536) (b % 65536) wd W hc hd hw
  generalize inn 4294967296 a b wd = x at c1 c2 c3
  generalize inn 65536 (a % 65536) (b % 65536) wd = y at c4 c5 c6
  go_enter Try.func6, Try.ntmps6
  go_wp2_with (first
    | (go_at_call 29; refine (c1 _).mono ?_; rintro e w' ⟨rfl, rfl⟩)
    | (go_at_call 30; refine (c2 _).mono ?_; rintro e w' ⟨rfl, rfl⟩)
    | (go_at_call 31; refine (c3 _).mono ?_; rintro e w' ⟨rfl, rfl⟩)
    | (go_at_call 32; refine (c4 _).mono ?_; rintro e w' ⟨rfl, rfl⟩)
    | (go_at_call 33; refine (c5 _).mono ?_; rintro e w' ⟨rfl, rfl⟩)
    | (go_at_call 34; refine (c6 _).mono ?_; rintro e w' ⟨rfl, rfl⟩)
    | (go_at_call 16; refine (works_any _).mono ?_; rintro e w' ⟨rfl, rfl⟩))
  go_ret
  exact ⟨rfl, rfl⟩
end Go.Proofs.Ytogcejgljpbpdaa
