/-
  The walk of ShaNil, from the contracts.
-/
import Derived.Test.YthekihginpodmaaDoorShaSt
namespace Go.Proofs.YthekihginpodmaaDoor
open Go.RowKit
set_option linter.unusedVariables false

set_option maxHeartbeats 1600000 in
theorem shaNil_of (SO : SumOk) (NK : NilOk) (a : Option Addr) (len cap : Nat) (z : List Int) (w : World) (w0 : IsRow .u8 w a len cap z) (ht : Tab w) :
    Calls Tryd.prog 9 #[.slice a len cap] w fun e w' => e = .returned (.bool true) ∧ Below w.heap.size w w' := by
  obtain ⟨_, _, hcap, hmax⟩ := w0.reads
  clear w0
  have HT := Lib.hid ht
  clear ht
  unfold maxLen at hmax
  by_cases hlong : 65536 < len
  · have hg : (65536 : Int) < len := by omega
    go_enter Tryd.func9, Tryd.ntmps9
    go_wp2_with (go_at_call 10; refine (works_any SO _ HT.out).mono ?_; rintro e w' ⟨rfl, hb⟩)
    go_ret
    exact ⟨rfl, hb⟩
  · have hg : ¬ (65536 : Int) < len := by omega
    go_enter Tryd.func9, Tryd.ntmps9
    go_wp2_with fail
    refine (NK.write w a len cap).mono ?_
    rintro e w1 ⟨rfl, hb1⟩
    go_wp2_with fail
    refine (NK.sum w1).mono ?_
    rintro e w2 ⟨rfl, hb2⟩
    have hb12 : Below w.heap.size w w2 := hb1.trans (hb2.mono hb1.size)
    have HB := Lib.hid hb12
    have heq := fun W => eqi_zero W
    clear hb1 hb2 hb12
    have hgd : Tryd.prog.eqGuardType Tryd.prog.depth 25 = false := by kernel_rfl
    go_wp2_with fail
    clear heq hgd
    refine (works_any SO w2 (HT.out.below HB.out HT.out.lt)).mono ?_
    rintro e w3 ⟨rfl, hb3⟩
    go_wp2
    go_ret
    exact ⟨rfl, HB.out.trans (hb3.mono HB.out.size)⟩
end Go.Proofs.YthekihginpodmaaDoor
