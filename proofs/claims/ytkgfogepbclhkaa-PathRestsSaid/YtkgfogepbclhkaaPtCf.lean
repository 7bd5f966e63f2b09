/-
  A config's cells. Written by genpt4.py.
-/
import Derived.Test.YtkgfogepbclhkaaPtPut
namespace Go.Proofs.Ytkgfogepbclhkaa
open Go.RowKit
set_option linter.unusedVariables false
def cfC (k0 mtu k2 k3 k4 most first lo hi k9 k10 every may k13 : Int) : List Value := [.int .i64 k0, .int .i64 mtu, .int .i64 k2, .int .i64 k3, .int .i64 k4, .int .i64 most, .int .i64 first, .int .i64 lo, .int .i64 hi, .int .i64 k9, .int .i64 k10, .int .i64 every, .int .i64 may, .int .i64 k13]
theorem cfBox (W : World) (k0 mtu k2 k3 k4 most first lo hi k9 k10 every may k13 : Int) : Arr (W.alloc (.cells #[.int .i64 k0, .int .i64 mtu, .int .i64 k2, .int .i64 k3, .int .i64 k4, .int .i64 most, .int .i64 first, .int .i64 lo, .int .i64 hi, .int .i64 k9, .int .i64 k10, .int .i64 every, .int .i64 may, .int .i64 k13] 23)) W.heap.size 23 [.int .i64 k0, .int .i64 mtu, .int .i64 k2, .int .i64 k3, .int .i64 k4, .int .i64 most, .int .i64 first, .int .i64 lo, .int .i64 hi, .int .i64 k9, .int .i64 k10, .int .i64 every, .int .i64 may, .int .i64 k13] := arr_new _ _ _
end Go.Proofs.Ytkgfogepbclhkaa
