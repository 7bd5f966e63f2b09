/-
  Proved: Whatever is done with a path (up to 300 things), all that is told of it is the reference's; also where New refused. That is the statement PathPlays, whole.
  Conditions: none but the statement's own; it speaks of the program at the commit of the claim's file COMMIT.
-/
import Derived.Test.YtkgfogepbclhkaaRows
import Derived.Test.YtkgfogepbclhkaaFrame
import Derived.Test.YtkgfogepbclhkaaLPtPlays
import Derived.Test.YtkgfogepbclhkaaFldsV
import Derived.ProofKit
import Derived.OpenShut
import Derived.ShutString
import Derived.ChangeOld
import Derived.Lib.SmallJoins
namespace Go.Proofs.Ytkgfogepbclhkaa.pathPlays
open Go.ChangeShapes Go.WideShapes Go.ChangeAt Go.RowKit
open Go.ChangeMaps (open_string shut_string)
set_option linter.unusedVariables false

set_option maxRecDepth 100000 in
theorem lifted (os : Os) (started : os.Started) (H : Type) (enc : TypeId × Value → H) :
    ReturnsInHanded {} Try.checked os 3 .any (Rows.pathPlaysSpec.pre6 enc Try.prog Try.f3 Rows.pathPlaysRow.domain false) (Rows.pathPlaysSpec.post enc Try.prog Try.f3 false true false false) := by
  refine returnsInHanded_of_change (C := Try.checked) own started (by kernel_rfl) Try.func3
    (ChangeSpec.witness6 (enc := enc) (C := Try.checked) false ⟨#[], #[.agg #[.int .i64 0, .int .i64 0, .int .i64 0, .int .i64 0, .int .i64 0, .int .i64 0, .int .i64 0, .int .i64 0, .int .i64 0, .int .i64 0, .int .i64 0, .int .i64 0, .int .i64 0, .int .i64 0], .int .i64 0, .slice none 0 0], []⟩ 8 (by kernel_rfl) (by kernel_rfl) (by kernel_rfl) (by kernel_rfl)) ?_
  intro W base args ds gs before hval0 hW hcnd _
  have hval : ∀ (j : Nat) t v, Try.f3.params[j]? = some t → args[j]? = some v → Value.okWide Try.prog W .any base t v := hval0
  have hW' := hW
  obtain ⟨p, q, hA0, hV, rfl, hfz, hnd⟩ := hW
  have hA : DataW.TrodAll enc Try.prog W 0 (fun _ => true) true Try.f3.params.toList args.toList ds p := hA0
  rw [Try.params3] at hA hval
  obtain ⟨v0, vs0, d0, ds0, p0, q0, hargs, rfl, rfl, h0, r0⟩ := trodAll_cons hA
  obtain ⟨v1, vs1, d1, ds1, p1, q1, rfl, rfl, rfl, h1, r1⟩ := trodAll_cons r0
  obtain ⟨v2, vs2, d2, ds2, p2, q2, rfl, rfl, rfl, h2, r2⟩ := trodAll_cons r1
  obtain ⟨rfl, rfl, rfl⟩ := trodAll_nil r2
  obtain rfl : args = #[v0, v1, v2] := by cases args; simp_all
  obtain ⟨rfl, rfl⟩ := trodVars_none hV
  have k0 := h0
  have lt0 : ∀ x ∈ p0, x.block < W.heap.size := by obtain ⟨m, hm⟩ := k0; exact DataW.trod_lt m _ _ _ hm
  obtain ⟨cs0, rfl, r0_0⟩ := open_flds [.int .i64, .int .i64, .int .i64, .int .i64, .int .i64, .int .i64, .int .i64, .int .i64, .int .i64, .int .i64, .int .i64, .int .i64, .int .i64, .int .i64] Try.underlying23 (by kernel_rfl) (by kernel_rfl) (by kernel_rfl) (hval 0 23 v0 rfl rfl) h0
  obtain ⟨_, _, rfl, ⟨a0_0, rfl, w0_0⟩, r0_1⟩ := cellsF_cons r0_0
  obtain ⟨_, _, rfl, ⟨a0_1, rfl, w0_1⟩, r0_2⟩ := cellsF_cons r0_1
  obtain ⟨_, _, rfl, ⟨a0_2, rfl, w0_2⟩, r0_3⟩ := cellsF_cons r0_2
  obtain ⟨_, _, rfl, ⟨a0_3, rfl, w0_3⟩, r0_4⟩ := cellsF_cons r0_3
  obtain ⟨_, _, rfl, ⟨a0_4, rfl, w0_4⟩, r0_5⟩ := cellsF_cons r0_4
  obtain ⟨_, _, rfl, ⟨a0_5, rfl, w0_5⟩, r0_6⟩ := cellsF_cons r0_5
  obtain ⟨_, _, rfl, ⟨a0_6, rfl, w0_6⟩, r0_7⟩ := cellsF_cons r0_6
  obtain ⟨_, _, rfl, ⟨a0_7, rfl, w0_7⟩, r0_8⟩ := cellsF_cons r0_7
  obtain ⟨_, _, rfl, ⟨a0_8, rfl, w0_8⟩, r0_9⟩ := cellsF_cons r0_8
  obtain ⟨_, _, rfl, ⟨a0_9, rfl, w0_9⟩, r0_10⟩ := cellsF_cons r0_9
  obtain ⟨_, _, rfl, ⟨a0_10, rfl, w0_10⟩, r0_11⟩ := cellsF_cons r0_10
  obtain ⟨_, _, rfl, ⟨a0_11, rfl, w0_11⟩, r0_12⟩ := cellsF_cons r0_11
  obtain ⟨_, _, rfl, ⟨a0_12, rfl, w0_12⟩, r0_13⟩ := cellsF_cons r0_12
  obtain ⟨_, _, rfl, ⟨a0_13, rfl, w0_13⟩, r0_14⟩ := cellsF_cons r0_13
  obtain rfl := cellsF_nil r0_14
  obtain ⟨a1, rfl, rfl, rfl, w1⟩ := open_int Try.underlying2 (hval 1 2 v1 rfl rfl) h1
  obtain ⟨a2, len2, cap2, rfl⟩ := okWide_slice Try.underlying24 (hval 2 24 v2 rfl rfl)
  have k2 := h2
  have lt2 : ∀ x ∈ p2, x.block < W.heap.size := by obtain ⟨m, hm⟩ := k2; exact DataW.trod_lt m _ _ _ hm
  obtain ⟨z2, w2⟩ : ∃ zs, IsPOps W a2 len2 cap2 zs := by
    obtain ⟨fuel, hf⟩ := h2
    exact pops_in (by simpa [Value.cells] using hf)
  clear hA0 hval0
  refine (pathPlays_walk a0_0 a0_1 a0_2 a0_3 a0_4 a0_5 a0_6 a0_7 a0_8 a0_9 a0_10 a0_11 a0_12 a0_13 a1 a2 len2 cap2 z2 W w0_0 w0_1 w0_2 w0_3 w0_4 w0_5 w0_6 w0_7 w0_8 w0_9 w0_10 w0_11 w0_12 w0_13 w1 w2).mono fun e W' ⟨he, bel⟩ => ?_
  subst he
  exact ⟨_, rfl, _, _, _, [], _, [], hW', trodAll_mk1 (shut_bool Try.underlying4 _), (trodAll_cons_mk (Below.trod laidOut (by kernel_rfl) (of_decide_eq_true (by kernel_rfl)) k0 bel lt0) (trodAll_cons_mk (shut_int Try.underlying2 w1) (trodAll_cons_mk (Below.trod laidOut (by kernel_rfl) (of_decide_eq_true (by kernel_rfl)) k2 bel lt2) trodAll_mk0))), rfl, bel.frame _, fun h => by cases h⟩

theorem over : Rows.pathPlaysRow.holds Try.pinned (OpenSpec.ofChange Rows.pathPlaysSpec) :=
  OpenClaim.holds_of_wide 3 Try.f3 rfl rfl rfl rfl rfl rfl rfl ⟨rfl, rfl, rfl, rfl, rfl⟩ rfl rfl rfl rfl rfl (by kernel_rfl) Try.func3 (by kernel_rfl)
    (of_decide_eq_true (by kernel_rfl)) (by unfold Func.isWrapper; first | (rw [if_pos (by decide +kernel)]; kernel_rfl) | (rw [if_neg (by decide +kernel)]; exact ⟨rfl, rfl⟩))
    (fun os started H enc _ => lifted os started H enc)

theorem proved : Rows.PathPlaysSaid := over
#print axioms proved
end Go.Proofs.Ytkgfogepbclhkaa.pathPlays
