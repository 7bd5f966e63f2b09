/-
  The statement BodiesCuts: the row's step round the walk.
-/
import Derived.Test.YtlihcckgnnnekaaRows
import Derived.Test.YtlihcckgnnnekaaFrame
import Derived.Test.YtlihcckgnnnekaaLBdCutsA
import Derived.Test.YtlihcckgnnnekaaBdOpen
import Derived.ProofKit
import Derived.OpenShut
import Derived.ShutString
import Derived.ChangeOld
import Derived.Lib.SmallJoins
namespace Go.Proofs.Ytlihcckgnnnekaa.bodiesCuts
open Go.ChangeShapes Go.WideShapes Go.ChangeAt Go.RowKit
open Go.ChangeMaps (open_string shut_string)
set_option linter.unusedVariables false

set_option maxRecDepth 100000 in
theorem lifted (os : Os) (started : os.Started) (H : Type) (enc : TypeId × Value → H) :
    ReturnsInHanded {} Try.checked os 10 .any (Rows.bodiesCutsSpec.pre6 enc Try.prog Try.f10 Rows.bodiesCutsRow.domain false) (Rows.bodiesCutsSpec.post enc Try.prog Try.f10 false true false false) := by
  refine returnsInHanded_of_change (C := Try.checked) own started (by kernel_rfl) Try.func10
    (ChangeSpec.witness6 (enc := enc) (C := Try.checked) false ⟨#[], #[.agg #[.bool false, .int .u32 0, .int .u16 0, .int .u16 0, .bool false, .bool false, .bool false, .slice none 0 0, .int .u32 0, .int .u32 0, .int .u16 0, .int .u16 0, .int .u32 0, .slice none 0 0, .int .u32 0, .int .u32 0, .slice none 0 0, .slice none 0 0, .int .u32 0, .slice none 0 0, .int .i64 0, .int .u32 0], .int .u16 0, .int .u8 0], []⟩ 8 (by kernel_rfl) (by kernel_rfl) (by kernel_rfl) (by kernel_rfl)) ?_
  intro W base args ds gs before hval0 hW hcnd _
  have hval : ∀ (j : Nat) t v, Try.f10.params[j]? = some t → args[j]? = some v → Value.okWide Try.prog W .any base t v := hval0
  have hW' := hW
  obtain ⟨p, q, hA0, hV, rfl, hfz, hnd⟩ := hW
  have hA : DataW.TrodAll enc Try.prog W 0 (fun _ => true) true Try.f10.params.toList args.toList ds p := hA0
  rw [Try.params10] at hA hval
  obtain ⟨v0, vs0, d0, ds0, p0, q0, hargs, rfl, rfl, h0, r0⟩ := trodAll_cons hA
  obtain ⟨v1, vs1, d1, ds1, p1, q1, rfl, rfl, rfl, h1, r1⟩ := trodAll_cons r0
  obtain ⟨v2, vs2, d2, ds2, p2, q2, rfl, rfl, rfl, h2, r2⟩ := trodAll_cons r1
  obtain ⟨rfl, rfl, rfl⟩ := trodAll_nil r2
  obtain rfl : args = #[v0, v1, v2] := by cases args; simp_all
  obtain ⟨rfl, rfl⟩ := trodVars_none hV
  have k0 := h0
  have lt0 : ∀ x ∈ p0, x.block < W.heap.size := by obtain ⟨m, hm⟩ := k0; exact DataW.trod_lt m _ _ _ hm
  obtain ⟨cs0, rfl, _⟩ := okWide_struct Try.underlying77 (hval 0 77 v0 rfl rfl)
  obtain ⟨fuel0, hf0⟩ := h0
  have hg0 : DataW.trod enc Try.prog W 0 (fun _ => true) true fuel0 77 cs0.toList = some _ := hf0
  obtain ⟨ak0, ld0, li0, ls0, lf0, at0, cu0, _, _, _, _, _, _, _, _, e0, gd0, gi0, gs0, gf0, wat0, wcu0⟩ := open_All hg0
  obtain ⟨a0d_0, a0d_1, a0d_2, a0d_3, a0d_4, a0d_5, a0d_6, len0d_6, cap0d_6, z0d_6, rfl, w0d_0, w0d_1, w0d_2, _, _, _, w0d_6⟩ := open_Data gd0
  obtain ⟨a0i_0, a0i_1, a0i_2, a0i_3, a0i_4, a0i_5, len0i_5, cap0i_5, z0i_5, rfl, w0i_0, w0i_1, w0i_2, w0i_3, w0i_4, w0i_5⟩ := open_Init gi0
  obtain ⟨a0s_0, a0s_1, a0s_2, len0s_2, cap0s_2, z0s_2, a0s_3, len0s_3, cap0s_3, z0s_3, rfl, w0s_0, w0s_1, w0s_2, w0s_3⟩ := open_Sack gs0
  obtain ⟨a0f_0, a0f_1, len0f_1, cap0f_1, z0f_1, rfl, w0f_0, w0f_1⟩ := open_Forward gf0
  obtain rfl : cs0 = #[.bool ak0, .int .u32 a0d_0, .int .u16 a0d_1, .int .u16 a0d_2, .bool a0d_3, .bool a0d_4, .bool a0d_5, .slice a0d_6 len0d_6 cap0d_6, .int .u32 a0i_0, .int .u32 a0i_1, .int .u16 a0i_2, .int .u16 a0i_3, .int .u32 a0i_4, .slice a0i_5 len0i_5 cap0i_5, .int .u32 a0s_0, .int .u32 a0s_1, .slice a0s_2 len0s_2 cap0s_2, .slice a0s_3 len0s_3 cap0s_3, .int .u32 a0f_0, .slice a0f_1 len0f_1 cap0f_1, .int .i64 at0, .int .u32 cu0] := by apply Array.toList_inj.1; rw [e0] <;> rfl
  obtain ⟨a1, rfl, rfl, rfl, w1⟩ := open_int Try.underlying23 (hval 1 23 v1 rfl rfl) h1
  obtain ⟨a2, rfl, rfl, rfl, w2⟩ := open_int Try.underlying5 (hval 2 5 v2 rfl rfl) h2
  clear hA0 hval0
  refine (bodiesCuts_walk ak0 a0d_0 a0d_1 a0d_2 a0d_3 a0d_4 a0d_5 a0d_6 len0d_6 cap0d_6 z0d_6 a0i_0 a0i_1 a0i_2 a0i_3 a0i_4 a0i_5 len0i_5 cap0i_5 z0i_5 a0s_0 a0s_1 a0s_2 len0s_2 cap0s_2 z0s_2 a0s_3 len0s_3 cap0s_3 z0s_3 a0f_0 a0f_1 len0f_1 cap0f_1 z0f_1 at0 cu0 a1 a2 W w0d_0 w0d_1 w0d_2 w0d_6 w0i_0 w0i_1 w0i_2 w0i_3 w0i_4 w0i_5 w0s_0 w0s_1 w0s_2 w0s_3 w0f_0 w0f_1 wat0 wcu0 w1 w2).mono fun e W' ⟨he, bel⟩ => ?_
  subst he
  exact ⟨_, rfl, _, _, _, [], _, [], hW', trodAll_mk1 (shut_bool Try.underlying4 _), (trodAll_cons_mk (Below.trod laidOut (by kernel_rfl) (of_decide_eq_true (by kernel_rfl)) k0 bel lt0) (trodAll_cons_mk (shut_int Try.underlying23 w1) (trodAll_cons_mk (shut_int Try.underlying5 w2) trodAll_mk0))), rfl, bel.frame _, fun h => by cases h⟩

theorem over : Rows.bodiesCutsRow.holds Try.pinned (OpenSpec.ofChange Rows.bodiesCutsSpec) :=
  OpenClaim.holds_of_wide 10 Try.f10 rfl rfl rfl rfl rfl rfl rfl ⟨rfl, rfl, rfl, rfl, rfl⟩ rfl rfl rfl rfl rfl (by kernel_rfl) Try.func10 (by kernel_rfl)
    (of_decide_eq_true (by kernel_rfl)) (by unfold Func.isWrapper; first | (rw [if_pos (by decide +kernel)]; kernel_rfl) | (rw [if_neg (by decide +kernel)]; exact ⟨rfl, rfl⟩))
    (fun os started H enc _ => lifted os started H enc)

theorem proved : Rows.BodiesCutsSaid := over
#print axioms proved
end Go.Proofs.Ytlihcckgnnnekaa.bodiesCuts
