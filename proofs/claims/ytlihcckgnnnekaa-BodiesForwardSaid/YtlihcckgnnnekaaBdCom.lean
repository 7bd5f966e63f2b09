/-
  Stage 9: small things that the laws share.
-/
import Derived.Test.YtlihcckgnnnekaaBdWorks
import Derived.Test.YtlihcckgnnnekaaGoodL
namespace Go.Proofs.Ytlihcckgnnnekaa
open Go.RowKit
set_option linter.unusedVariables false

theorem Chose.int {b : Bool} {k : IntKind} {v z : Int} {e : Ending} (h : Chose b (.int k v) (.int k z) e) : e = .returned (.tuple #[.int k (if b = true then v else z), .int .i64 (if b = true then 0 else 7)]) := by
  rcases h with ⟨hb, h⟩ | ⟨hb, h⟩ <;> rw [h, hb] <;> rfl
theorem eqC_refl (k f : Int) (zs : List Int) : eqC k f zs k f zs = true := eqC_mk ⟨rfl, rfl, rfl⟩
theorem rsame_yes (k f : Int) (a b : Option Addr) (n m ca cb : Nat) (zs : List Int) (w : World) (ha : Reads w a n zs) (hb : Reads w b m zs) (hz : Byt zs) (hn : n ≤ 281474976) :
    Calls Try.prog 18 #[.agg #[.int .u8 k, .int .u8 f, .slice a n ca], .agg #[.int .u8 k, .int .u8 f, .slice b m cb]] w fun e w' => e = .returned (.bool true) ∧ Below w.heap.size w w' := by
  have hm : m = n := hb.1.symm.trans ha.1
  have h := rsame_any k f k f a b n m ca cb zs zs w ha hb hz hz (by omega) (by omega)
  rw [eqC_refl] at h
  exact h
theorem okData_eq {k f : Int} {zs : List Int} (h : okData k f zs = true) : k = 0 ∧ f = dflags (bitB f 4) (bitB f 2) (bitB f 1) ∧ zs = dataB (natAt zs 0 4) (natAt zs 4 2) (natAt zs 6 2) (zs.drop 12) := by
  unfold okData at h
  rw [Bool.and_eq_true] at h
  exact eqC_true h.2
theorem okInit_eq {k f : Int} {zs : List Int} (h : okInit k f zs = true) : k = k ∧ f = 0 ∧ zs = initBk k zs (ckK k zs) := by
  unfold okInit at h
  rw [Bool.and_eq_true] at h
  exact eqC_true h.2
theorem okInit_kind {k f : Int} {zs : List Int} (h : okInit k f zs = true) : k = 1 ∨ k = 2 := by
  unfold okInit initOk at h
  simp at h
  rcases h.1.2.2.2 with h | h
  · exact .inl h
  · exact .inr h.1
theorem okSack_eq {k f : Int} {zs : List Int} (h : okSack k f zs = true) : k = 3 ∧ f = 0 ∧ zs = sackB (natAt zs 0 4) (natAt zs 4 4) (sackG zs) (sackD zs) := by
  unfold okSack at h
  rw [Bool.and_eq_true] at h
  exact eqC_true h.2
theorem okFwd_eq {k f : Int} {zs : List Int} (h : okFwd k f zs = true) : k = 192 ∧ f = 0 ∧ zs = fwdB (natAt zs 0 4) (pairsAt zs 4 ((zs.length - 4 + 3) / 4)) := eqC_true h
theorem okTime_eq {k f : Int} {zs : List Int} (h : okTime k f zs = true) : k = k ∧ f = 0 ∧ zs = timeB (timeV zs) := by
  unfold okTime at h
  rw [Bool.and_eq_true] at h
  exact eqC_true h.2
theorem okTime_kind {k f : Int} {zs : List Int} (h : okTime k f zs = true) : k = 4 ∨ k = 5 := by
  unfold okTime at h
  rw [Bool.and_eq_true] at h
  simpa using h.1
theorem okCum_eq {k f : Int} {zs : List Int} (h : okCum k f zs = true) : k = 7 ∧ f = 0 ∧ zs = enc (natAt zs 0 4) 4 := eqC_true h
theorem ckK_len (k : Int) (zs : List Int) : (ckK k zs).length ≤ zs.length := by
  unfold ckK
  split
  · exact ckOf_len _ _
  · exact Nat.zero_le _
theorem sackG_len (zs : List Int) : (sackG zs).length ≤ zs.length := by unfold sackG; rw [pairsAt_len]; omega
theorem sackD_len (zs : List Int) : (sackD zs).length ≤ zs.length := by unfold sackD; rw [numsAt_len]; omega
end Go.Proofs.Ytlihcckgnnnekaa
