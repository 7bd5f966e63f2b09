/-
  The walk of MacSums.
-/
import Derived.Test.YtlgcplopibblbaaDoorMacWorks
import Derived.Test.YtlgcplopibblbaaDoorRef00c
namespace Go.Proofs.YtlgcplopibblbaaDoor
open Go.RowKit
set_option linter.unusedVariables false

theorem eql_hmac (W : World) (k t : List Int) : (binOp .eql 25 (dv (hmac k t)) (dv (hmac k t))).run Tryd.prog W = .ok (.bool true) W := by
  rw [eql_dv W (hmac_len _ _) (hmac_len _ _) (hmac_byt _ _) (hmac_byt _ _)]
  simp

set_option maxHeartbeats 3200000 in
theorem macSums_walk (a : Option Addr) (len cap : Nat) (z : List Int) (b : Option Addr) (len2 cap2 : Nat) (z2 : List Int) (w : World) (w0 : IsRow .u8 w a len cap z) (w1 : IsRow .u8 w b len2 cap2 z2) (ht : Tab w) :
    Calls Tryd.prog 3 #[.slice a len cap, .slice b len2 cap2] w fun e w' => e = .returned (.bool true) ∧ Below w.heap.size w w' := by
  obtain ⟨hr, hbyt, hcap, hmax⟩ := w0.reads
  obtain ⟨hr2, hbyt2, hcap2, hmax2⟩ := w1.reads
  clear w0 w1
  generalize z.take len = zs at hr hbyt
  generalize z2.take len2 = ys at hr2 hbyt2
  have HT := Lib.hid ht
  have HR := Lib.hid (And.intro hr (And.intro hbyt (And.intro hcap hmax)))
  have HR2 := Lib.hid (And.intro hr2 (And.intro hbyt2 (And.intro hcap2 hmax2)))
  clear hr hbyt hr2 hbyt2 ht hcap hcap2
  unfold maxLen at hmax hmax2
  by_cases hlong : 4096 < len
  · have hg : (4096 : Int) < len := by omega
    go_enter Tryd.func3, Tryd.ntmps3
    go_wp2_with (go_at_call 8; refine (works_any _ HT.out).mono ?_; rintro e w' ⟨rfl, hb⟩)
    go_ret
    exact ⟨rfl, hb⟩
  by_cases hlong2 : 8192 < len2
  · have hg : ¬ (4096 : Int) < len := by omega
    have hg2 : (8192 : Int) < len2 := by omega
    go_enter Tryd.func3, Tryd.ntmps3
    go_wp2_with (go_at_call 8; refine (works_any _ HT.out).mono ?_; rintro e w' ⟨rfl, hb⟩)
    go_ret
    exact ⟨rfl, hb⟩
  have hg : ¬ (4096 : Int) < len := by omega
  have hg2 : ¬ (8192 : Int) < len2 := by omega
  go_enter Tryd.func3, Tryd.ntmps3
  go_wp2_with fail
  refine (roomy_any a len cap zs w HR.out.1 (by omega)).mono ?_
  rintro e w1 ⟨rfl, hb1, hk1⟩
  have hR := roomy_any b len2 cap2 ys w1 (HR2.out.1.below hb1) (by omega)
  have H1 := Lib.hid (And.intro hb1 hk1)
  have HRR := Lib.hid hR
  clear hb1 hk1 hR
  go_wp2_with fail
  refine HRR.out.mono ?_
  rintro e w2 ⟨rfl, hb2, hk2⟩
  have hb2w : Below w.heap.size w w2 := H1.out.1.trans (hb2.mono H1.out.1.size)
  have hka := H1.out.2.below hb2
  have hin : Reads w2 (some ⟨w.heap.size, 0, none⟩) len zs := by
    have := hka.reads 0 len (by simp [HR.out.1.1])
    simpa [HR.out.1.1] using this
  have hin2 : Reads w2 (some ⟨w1.heap.size, 0, none⟩) len2 ys := by
    have := hk2.reads 0 len2 (by simp [HR2.out.1.1])
    simpa [HR2.out.1.1] using this
  have hs := msum_any (some ⟨w.heap.size, 0, none⟩) len (len + 16) zs (some ⟨w1.heap.size, 0, none⟩) len2 (len2 + 16) ys w2 hin HR.out.2.1 (by omega) (by omega) hin2 HR2.out.2.1 (by omega) (by omega) (HT.out.below hb2w HT.out.lt)
  have H2 := Lib.hid (And.intro hb2w (And.intro hka hk2))
  have HS := Lib.hid hs
  clear hb2 hk2 hb2w hka hin hin2 hs HRR H1
  go_wp2_with fail
  refine HS.out.mono ?_
  rintro e w3 ⟨rfl, hb3⟩
  have hb3w : Below w.heap.size w w3 := H2.out.1.trans (hb3.mono H2.out.1.size)
  have hs := rsum_any a len cap zs b len2 cap2 ys w3 (HR.out.1.below hb3w) HR.out.2.1 (by omega) (HR2.out.1.below hb3w) HR2.out.2.1 (by omega)
  have H3 := Lib.hid (And.intro hb3w (And.intro (H2.out.2.1.below hb3) (H2.out.2.2.below hb3)))
  have HS2 := Lib.hid hs
  clear hb3 hb3w hs HS H2
  go_wp2_with fail
  refine HS2.out.mono ?_
  rintro e w4 ⟨rfl, hb4⟩
  have hb4w : Below w.heap.size w w4 := H3.out.1.trans (hb4.mono H3.out.1.size)
  have heq := fun W => eql_hmac W zs ys
  have hgd := fun W x y => guard_dv W x y ((hmac zs ys).map (Value.int .u8)).toArray ((hmac zs ys).map (Value.int .u8)).toArray
  have H4 := Lib.hid (And.intro hb4w (And.intro (H3.out.2.1.below hb4) (H3.out.2.2.below hb4)))
  clear hb4 hb4w HS2 H3
  go_wp2_with fail
  clear heq hgd
  refine (kept_yes a w.heap.size len cap zs w4 H4.out.2.1 (HR.out.1.below H4.out.1) HR.out.2.1 (by omega)).mono ?_
  rintro e w5 ⟨rfl, hb5⟩
  have hb5w : Below w.heap.size w w5 := H4.out.1.trans (hb5.mono H4.out.1.size)
  have hk5 := H4.out.2.2.below hb5
  have H5 := Lib.hid (And.intro hb5w hk5)
  clear hb5 hb5w hk5 H4
  go_wp2_with fail
  refine (kept_yes b w1.heap.size len2 cap2 ys w5 H5.out.2 (HR2.out.1.below H5.out.1) HR2.out.2.1 (by omega)).mono ?_
  rintro e w6 ⟨rfl, hb6⟩
  have H6 := Lib.hid (H5.out.1.trans (hb6.mono H5.out.1.size))
  clear hb6 H5
  go_wp2_with fail
  refine (works_any w6 (HT.out.below H6.out HT.out.lt)).mono ?_
  rintro e w7 ⟨rfl, hb7⟩
  have H7 := Lib.hid (H6.out.trans (hb7.mono H6.out.size))
  clear hb7 H6
  go_wp2
  go_ret
  exact ⟨rfl, H7.out⟩
end Go.Proofs.YtlgcplopibblbaaDoor
