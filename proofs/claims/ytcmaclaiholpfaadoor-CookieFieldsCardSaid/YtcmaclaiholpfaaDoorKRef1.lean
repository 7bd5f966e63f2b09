/-
  The reference of layer 11: a number, what may be, what is fresh.
-/
import Derived.Test.YtcmaclaiholpfaaDoorKMath
import Derived.Test.YtcmaclaiholpfaaDoorMgA
import Derived.Test.YtcmaclaiholpfaaDoorArr
namespace Go.Proofs.YtcmaclaiholpfaaDoor
open Go.RowKit
set_option linter.unusedVariables false

theorem rnum_any (a : Option Addr) (len cap i n : Nat) (zs : List Int) (w : World) (hr : Reads w a len zs) (hb : Byt zs) (hcap : len ≤ cap) (hl : len ≤ 140737488355328) (hn : sizB (n : Int) = true) (hi : i + n ≤ len) :
    Calls Tryd.prog 28 #[.slice a len cap, .int .i64 (i : Int), .int .i64 (n : Int)] w fun e w' => e = .returned (.int .u64 (num ((zs.drop i).take n))) ∧ Below w.heap.size w w' := by
  have hg := getR_yes a len cap i n zs w hr hb hcap hl hn hi
  clear hr hb hcap hl hn hi
  go_enter Tryd.func28, Tryd.ntmps28
  go_wp2_with fail
  refine hg.mono ?_
  rintro e w1 ⟨rfl, hb1⟩
  clear hg
  go_wp2
  go_ret
  exact ⟨rfl, hb1⟩

theorem rmayK_any (k : KV) (w : World) :
    Calls Tryd.prog 29 #[k.val] w fun e w' => e = .returned (.bool (mayK k)) ∧ Below w.heap.size w w' := by
  unfold KV.val
  go_enter Tryd.func29, Tryd.ntmps29
  go_wp2
  all_goals (go_ret; refine ⟨?_, (Below.refl _ _).alloc (Nat.le_refl _) _⟩; simp [mayK, *] <;> omega)

theorem rfresh_any (k : KV) (now life : Int) (w : World) (hk : k.ok) (hn : -9223372036854775808 ≤ now ∧ now < 9223372036854775808) (hl : -9223372036854775808 ≤ life ∧ life < 9223372036854775808) :
    Calls Tryd.prog 17 #[k.val, .int .i64 now, .int .i64 life] w fun e w' => e = .returned (.bool (freshK k now life)) ∧ Below w.heap.size w w' := by
  have hb := hk.born
  clear hk
  unfold KV.val
  go_enter Tryd.func17, Tryd.ntmps17
  go_wp2
  all_goals (go_ret; refine ⟨?_, (Below.refl _ _).alloc (Nat.le_refl _) _⟩; simp [freshK, IntKind.wrap_u64, *] <;> omega)

end Go.Proofs.YtcmaclaiholpfaaDoor
