/-
  Stage 10: what the laws lean on: the program's functions and the anchor, as they are to be proved.
-/
import Derived.Test.YtnndlpbbllmpjaaPkRef4
import Derived.Test.YtnndlpbbllmpjaaPkRef5
namespace Go.Proofs.Ytnndlpbbllmpjaa
open Go.RowKit
set_option linter.unusedVariables false

/-- The anchor. -/
def PkWorks : Prop := ∀ w, Calls Try.prog 12 #[] w fun e w' => e = .returned (.bool true) ∧ Below w.heap.size w w'
/-- The program's Write. -/
def PkWriteOk : Prop := ∀ (tag : Int) (a : Option Addr) (n c : Nat) (L : List Ck) (w : World), RowsCk w a n c L → n ≤ 1048576 → 0 ≤ tag → tag < 4294967296 → 12 + (bodyP (pcs L)).length ≤ 1099511627776 →
  Calls Try.prog 14 #[.agg #[.int .u32 tag, .slice a n c]] w fun e w' => ∃ a' c', e = .returned (.slice a' (writeP tag (pcs L)).length c') ∧ Below w.heap.size w w' ∧ Row8 w.heap.size w' a' (writeP tag (pcs L)).length c' (writeP tag (pcs L))
/-- The program's Size. -/
def PkSizeOk : Prop := ∀ (tag : Int) (a : Option Addr) (n c : Nat) (L : List Ck) (w : World), RowsCk w a n c L → n ≤ 1048576 → sizeP (pcs L) ≤ 4611686018427387903 →
  Calls Try.prog 15 #[.agg #[.int .u32 tag, .slice a n c]] w fun e w' => e = .returned (.int .i64 ((sizeP (pcs L) : Nat) : Int)) ∧ Below w.heap.size w w'
/-- The program's Alone. -/
def PkAloneOk : Prop := ∀ (k : Int) (w : World), 0 ≤ k → k < 256 → Calls Try.prog 27 #[.int .u8 k] w fun e w' => e = .returned (.bool (aloneK k)) ∧ w = w'
/-- The program's Fits. -/
def PkFitsOk : Prop := ∀ (tag : Int) (a : Option Addr) (n c : Nat) (L : List Ck) (r : Ck) (mtu : Int) (w : World), RowsCk w a n c L → CkOk w r → n ≤ 1048575 → sizeP (pcs L ++ [r.pc]) ≤ 4611686018427387903 → -9223372036854775808 ≤ mtu → mtu ≤ 9223372036854775807 →
  Calls Try.prog 25 #[.agg #[.int .u32 tag, .slice a n c], .agg #[.int .u8 r.k, .int .u8 r.f, .slice r.a r.n r.c], .int .i64 mtu] w fun e w' => e = .returned (.bool (fitsB (pcs L) r.pc mtu)) ∧ Below w.heap.size w w'
/-- The bodies are rows of the call's own, each in a block of its own. -/
def OwnBodies (base : Nat) (w : World) (L : List Ck) : Prop := (∀ r ∈ L, Row8 base w r.a r.n r.c r.zs) ∧ ∀ (i j : Nat) ri rj, L[i]? = some ri → L[j]? = some rj → i ≠ j → ri.a = none ∨ ri.a ≠ rj.a
/-- What the program's Read answers. -/
def RdPr (b : List Int) (w w' : World) (e : Ending) : Prop :=
  (b.length < 12 ∧ e = .returned (rdNo 7)) ∨
  (12 ≤ b.length ∧ sumOk b = false ∧ e = .returned (rdNo 8)) ∨
  (12 ≤ b.length ∧ sumOk b = true ∧ (∀ M, ¬ IsP b M) ∧ e = .returned (rdNo 7)) ∨
  (12 ≤ b.length ∧ sumOk b = true ∧ ∃ L a n c, IsP b (pcs L) ∧ e = .returned (.tuple #[.agg #[.int .u32 (tagB b), .slice a n c], .int .i64 0]) ∧ RowsCk w' a n c L ∧ n ≤ 1048576 ∧ OwnBodies w.heap.size w' L)
/-- The program's Read. -/
def PkReadOk : Prop := ∀ (a : Option Addr) (n c : Nat) (b : List Int) (w : World), Reads w a n b → Byt b → n ≤ c → n ≤ 1048576 →
  Calls Try.prog 22 #[.slice a n c] w fun e w' => RdPr b w w' e ∧ Below w.heap.size w w'
end Go.Proofs.Ytnndlpbbllmpjaa
