/-
  Proved: A nil path is not active, has the size 0, and whatever is done with it answers false. That is the statement PathNil, whole.
  Conditions: none but the statement's own; it speaks of the program at the commit of the claim's file COMMIT.
-/
import Derived.Test.YtkgfogepbclhkaaRows
import Derived.Test.YtkgfogepbclhkaaFrame
import Derived.Test.YtkgfogepbclhkaaLPtNil
import Derived.Test.YtkgfogepbclhkaaFldsV
import Derived.ProofKit
import Derived.OpenShut
import Derived.ShutString
import Derived.ChangeOld
import Derived.Lib.SmallJoins
namespace Go.Proofs.Ytkgfogepbclhkaa.pathNil
open Go.ChangeShapes Go.WideShapes Go.ChangeAt Go.RowKit
open Go.ChangeMaps (open_string shut_string)
set_option linter.unusedVariables false

set_option maxRecDepth 100000 in
theorem lifted (os : Os) (started : os.Started) (H : Type) (enc : TypeId × Value → H) :
    ReturnsInHanded {} Try.checked os 8 .any (Rows.pathNilSpec.pre6 enc Try.prog Try.f8 Rows.pathNilRow.domain false) (Rows.pathNilSpec.post enc Try.prog Try.f8 false true false false) := by
  refine returnsInHanded_of_change (C := Try.checked) own started (by kernel_rfl) Try.func8
    (ChangeSpec.witness6 (enc := enc) (C := Try.checked) false ⟨#[], #[.agg #[.int .i64 0, .int .i64 0, .bool false, .int .i64 0, .int .i64 0]], []⟩ 8 (by kernel_rfl) (by kernel_rfl) (by kernel_rfl) (by kernel_rfl)) ?_
  intro W base args ds gs before hval0 hW hcnd _
  have hval : ∀ (j : Nat) t v, Try.f8.params[j]? = some t → args[j]? = some v → Value.okWide Try.prog W .any base t v := hval0
  have hW' := hW
  obtain ⟨p, q, hA0, hV, rfl, hfz, hnd⟩ := hW
  have hA : DataW.TrodAll enc Try.prog W 0 (fun _ => true) true Try.f8.params.toList args.toList ds p := hA0
  rw [Try.params8] at hA hval
  obtain ⟨v0, vs0, d0, ds0, p0, q0, hargs, rfl, rfl, h0, r0⟩ := trodAll_cons hA
  obtain ⟨rfl, rfl, rfl⟩ := trodAll_nil r0
  obtain rfl : args = #[v0] := by cases args; simp_all
  obtain ⟨rfl, rfl⟩ := trodVars_none hV
  have k0 := h0
  have lt0 : ∀ x ∈ p0, x.block < W.heap.size := by obtain ⟨m, hm⟩ := k0; exact DataW.trod_lt m _ _ _ hm
  obtain ⟨cs0, rfl, r0_0⟩ := open_flds [.int .i64, .int .i64, .bool, .int .i64, .int .i64] Try.underlying36 (by kernel_rfl) (by kernel_rfl) (by kernel_rfl) (hval 0 36 v0 rfl rfl) h0
  obtain ⟨_, _, rfl, ⟨a0_0, rfl, w0_0⟩, r0_1⟩ := cellsF_cons r0_0
  obtain ⟨_, _, rfl, ⟨a0_1, rfl, w0_1⟩, r0_2⟩ := cellsF_cons r0_1
  obtain ⟨_, _, rfl, ⟨a0_2, rfl⟩, r0_3⟩ := cellsF_cons r0_2
  obtain ⟨_, _, rfl, ⟨a0_3, rfl, w0_3⟩, r0_4⟩ := cellsF_cons r0_3
  obtain ⟨_, _, rfl, ⟨a0_4, rfl, w0_4⟩, r0_5⟩ := cellsF_cons r0_4
  obtain rfl := cellsF_nil r0_5
  clear hA0 hval0
  refine (pathNil_walk a0_0 a0_1 a0_2 a0_3 a0_4 W w0_0 w0_1 w0_3 w0_4).mono fun e W' ⟨he, bel⟩ => ?_
  subst he
  exact ⟨_, rfl, _, _, _, [], _, [], hW', trodAll_mk1 (shut_bool Try.underlying4 _), (trodAll_cons_mk (Below.trod laidOut (by kernel_rfl) (of_decide_eq_true (by kernel_rfl)) k0 bel lt0) trodAll_mk0), rfl, bel.frame _, fun h => by cases h⟩

theorem over : Rows.pathNilRow.holds Try.pinned (OpenSpec.ofChange Rows.pathNilSpec) :=
  OpenClaim.holds_of_wide 8 Try.f8 rfl rfl rfl rfl rfl rfl rfl ⟨rfl, rfl, rfl, rfl, rfl⟩ rfl rfl rfl rfl rfl (by kernel_rfl) Try.func8 (by kernel_rfl)
    (of_decide_eq_true (by kernel_rfl)) (by unfold Func.isWrapper; first | (rw [if_pos (by decide +kernel)]; kernel_rfl) | (rw [if_neg (by decide +kernel)]; exact ⟨rfl, rfl⟩))
    (fun os started H enc _ => lifted os started H enc)

theorem proved : Rows.PathNilSaid := over
#print axioms proved
end Go.Proofs.Ytkgfogepbclhkaa.pathNil
