/-
  Stage 9: small things that the laws share.
-/
import Derived.Test.YtlihcckgnnnekaaBdWorks
import Derived.Test.YtlihcckgnnnekaaGoodL
namespace Go.Proofs.Ytlihcckgnnnekaa
open Go.RowKit
set_option linter.unusedVariables false

theorem Chose.int {b : Bool} {k : IntKind} {v z : Int} {e : Ending} (h : Chose b (.int k v) (.int k z) e) : e = .returned (.tuple #[.int k (if b = true then v else z), .int .i64 (if b = true then 0 else 7)]) := by
  rcases h with ⟨hb, h⟩ | ⟨hb, h⟩ <;> rw [h, hb] <;> rfl
theorem eqC_refl (k f : Int) (zs : List Int) : eqC k f zs k f zs = true := eqC_mk ⟨rfl, rfl, rfl⟩
theorem rsame_yes (k f : Int) (a b : Option Addr) (n m ca cb : Nat) (zs : List Int) (w : World) (ha : Reads w a n zs) (hb : Reads w b m zs) (hz : Byt zs) (hn : n ≤ 281474976) :
    Calls Try.prog 18 #[.agg #[.int .u8 k, .int .u8 f, .slice a n ca], .agg #[.int .u8 k, .int .u8 f, .slice b m cb]] w fun e w' => e = .returned (.bool true) ∧ Below w.heap.size w w' := by
  have hm : m = n := hb.1.symm.trans ha.1
  have h := rsame_any k f k f a b n m ca cb zs zs w ha hb hz hz (by omega) (by omega)
  rw [eqC_refl] at h
  exact h
end Go.Proofs.Ytlihcckgnnnekaa
