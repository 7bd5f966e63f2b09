/-
  The program's cookie: a number, what is valid, what is fresh.
-/
import Derived.Test.YtcmaclaiholpfaaDoorKMath
import Derived.Test.YtcmaclaiholpfaaDoorMgA
import Derived.Test.YtcmaclaiholpfaaDoorArr
namespace Go.Proofs.YtcmaclaiholpfaaDoor
open Go.RowKit
set_option linter.unusedVariables false

theorem pnum_any (a : Option Addr) (len cap i n : Nat) (zs : List Int) (w : World) (hr : Reads w a len zs) (hb : Byt zs) (hl : len ≤ 140737488355328) (hn : sizB (n : Int) = true) (hi : i + n ≤ len) :
    Calls Tryd.prog 30 #[.slice a len cap, .int .i64 (i : Int), .int .i64 (n : Int)] w fun e w' => e = .returned (.int .u64 (num ((zs.drop i).take n))) ∧ w = w' := by
  have hg := get_yes a len cap i n zs w hr hb hl hn hi
  clear hr hb hl hn hi
  go_enter Tryd.func30, Tryd.ntmps30
  go_wp2_with fail
  refine hg.mono ?_
  rintro e w1 ⟨rfl, rfl⟩
  clear hg
  go_wp2
  go_ret
  exact ⟨rfl, rfl⟩

theorem pmay_any (k : KV) (w : World) :
    Calls Tryd.prog 27 #[k.val] w fun e w' => e = .returned (.bool (mayK k)) ∧ Below w.heap.size w w' := by
  unfold KV.val
  go_enter Tryd.func27, Tryd.ntmps27
  go_wp2
  all_goals (go_ret; refine ⟨?_, (Below.refl _ _).alloc (Nat.le_refl _) _⟩; simp [mayK, *] <;> omega)

theorem pfresh_any (k : KV) (now life : Int) (w : World) (hk : k.ok) (hn : -9223372036854775808 ≤ now ∧ now < 9223372036854775808) (hl : -9223372036854775808 ≤ life ∧ life < 9223372036854775808) :
    Calls Tryd.prog 16 #[k.val, .int .i64 now, .int .i64 life] w fun e w' => e = .returned (.bool (freshK k now life)) ∧ Below w.heap.size w w' := by
  have hb := hk.born
  clear hk
  unfold KV.val
  go_enter Tryd.func16, Tryd.ntmps16
  go_wp2
  all_goals (go_ret; refine ⟨?_, (Below.refl _ _).alloc (Nat.le_refl _) _⟩; simp [freshK, IntKind.wrap_u64, *] <;> omega)

theorem quiet_as {P : Program} {f : FuncId} {args : Array Value} {w : World} {n : Nat} {v : Value}
    (h : Calls P f args (w.drewN n) fun e w' => e = .returned v ∧ w.drewN n = w') : Calls P f args (w.drewN n) fun e w'' => e = .returned v ∧ ∃ m, w'' = w.drewN m :=
  h.mono fun _ _ ⟨he, hm⟩ => ⟨he, n, hm.symm⟩

/-- Put, said as the reference's. -/
theorem putP_yes (a : Option Addr) (len cap n : Nat) (x : Int) (zs : List Int) (w : World) (hr : Reads w a len zs) (hl : len ≤ 140737488355328) (hx0 : 0 ≤ x) (hx1 : x ≤ 18446744073709551615) (hn : sizB (n : Int) = true) :
    Calls Tryd.prog 20 #[.slice a len cap, .int .u64 x, .int .i64 (n : Int)] w fun e w' =>
      ∃ a' c', e = .returned (.slice a' (len + n) c') ∧ Below w.heap.size w w' ∧ Row8 w.heap.size w' a' (len + n) c' (zs ++ enc x n) := by
  have hn8 : n ≤ 8 := by have := (sizB_iff n).1 hn; omega
  have hl1 := hr.1
  refine (put_yes a len cap n x zs w hr hl hx0 hx1 hn).mono ?_
  rintro e w' ⟨rfl, hb, hk⟩
  exact ⟨_, _, rfl, hb, Row8.of_blk hk (Nat.le_refl _) (by simp; omega) (by unfold maxLen; omega)⟩
end Go.Proofs.YtcmaclaiholpfaaDoor
