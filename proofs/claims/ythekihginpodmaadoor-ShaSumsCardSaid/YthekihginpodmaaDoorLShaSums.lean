/-
  The walk of ShaSums, from the contract of Sum.
-/
import Derived.Test.YthekihginpodmaaDoorShaApi
namespace Go.Proofs.YthekihginpodmaaDoor
open Go.RowKit
set_option linter.unusedVariables false

set_option maxHeartbeats 1600000 in
theorem shaSums_of (SO : SumOk) (a : Option Addr) (len cap : Nat) (z : List Int) (w : World) (w0 : IsRow .u8 w a len cap z) (ht : Tab w) :
    Calls Tryd.prog 3 #[.slice a len cap] w fun e w' => e = .returned (.bool true) ∧ Below w.heap.size w w' := by
  obtain ⟨hr, hbyt, hcap, hmax⟩ := w0.reads
  clear w0
  generalize z.take len = zs at hr hbyt
  have HT := Lib.hid ht
  have HR := Lib.hid (And.intro hr (And.intro hbyt (And.intro hcap hmax)))
  clear hr hbyt ht hcap
  unfold maxLen at hmax
  by_cases hlong : 16384 < len
  · have hg : (16384 : Int) < len := by omega
    go_enter Tryd.func3, Tryd.ntmps3
    go_wp2_with (go_at_call 10; refine (works_any SO _ HT.out).mono ?_; rintro e w' ⟨rfl, hb⟩)
    go_ret
    exact ⟨rfl, hb⟩
  · have hg : ¬ (16384 : Int) < len := by omega
    go_enter Tryd.func3, Tryd.ntmps3
    go_wp2_with fail
    refine (roomy_any a len cap zs w HR.out.1 (by omega)).mono ?_
    rintro e w1 ⟨rfl, hb1, hk1⟩
    have HB1 := Lib.hid hb1
    have HK1 := Lib.hid hk1
    have hsz1 := hb1.size
    clear hb1 hk1
    have hin : Reads w1 (some ⟨w.heap.size, 0, none⟩) len zs := by
      have := HK1.out.reads 0 len (by simp [HR.out.1.1])
      simpa [HR.out.1.1] using this
    have hs := SO (some ⟨w.heap.size, 0, none⟩) len (len + 16) zs w1 hin HR.out.2.1 (by omega) (by omega) (HT.out.below HB1.out HT.out.lt)
    have HS := Lib.hid hs
    clear hin hs
    go_wp2_with fail
    refine HS.out.mono ?_
    rintro e w2 ⟨rfl, hb2⟩
    have HB2 := Lib.hid (hb2.mono hsz1)
    have HKb := Lib.hid (HK1.out.below hb2)
    have hsz2 := hb2.size
    clear hb2
    go_wp2_with fail
    refine (sum_any a len cap zs w2 (HR.out.1.below (HB1.out.trans HB2.out)) HR.out.2.1 (by omega)).mono ?_
    rintro e w3 ⟨rfl, hb3⟩
    have heq := fun W => eql_sha W zs
    have hgd := fun W x y => guard_dv W x y ((sha zs).map (Value.int .u8)).toArray ((sha zs).map (Value.int .u8)).toArray
    have HB3 := Lib.hid (hb3.mono hsz2)
    have HKc := Lib.hid (HKb.out.below hb3)
    have hsz3 := hb3.size
    clear hb3
    go_wp2_with fail
    clear heq hgd
    have hb123 : Below w.heap.size w w3 := HB1.out.trans (HB2.out.trans (HB3.out.mono hsz1))
    refine (kept_yes a w.heap.size len cap zs w3 HKc.out (HR.out.1.below hb123) HR.out.2.1 (by omega)).mono ?_
    rintro e w4 ⟨rfl, hb4⟩
    have hb1234 : Below w.heap.size w w4 := hb123.trans (hb4.mono hb123.size)
    go_wp2_with fail
    refine (works_any SO w4 (HT.out.below hb1234 HT.out.lt)).mono ?_
    rintro e w5 ⟨rfl, hb5⟩
    go_wp2
    go_ret
    exact ⟨rfl, hb1234.trans (hb5.mono hb1234.size)⟩
end Go.Proofs.YthekihginpodmaaDoor
