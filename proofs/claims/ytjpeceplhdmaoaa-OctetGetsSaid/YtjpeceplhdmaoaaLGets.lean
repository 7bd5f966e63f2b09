/-
  The walk of OctetGets.
-/
import Derived.Test.YtjpeceplhdmaoaaWorks
import Derived.Test.YtjpeceplhdmaoaaFrame
import Derived.Test.YtjpeceplhdmaoaaRef00c
import Derived.Test.YtjpeceplhdmaoaaRef01
namespace Go.Proofs.Ytjpeceplhdmaoaa
open Go.RowKit
set_option linter.unusedVariables false

/-- A long argument: the anchor alone is asked. -/
theorem octetGets_long (a : Option Addr) (len cap : Nat) (a1 a2 : Int) (w : World) (h : 131072 < len) (hm : len ≤ 9223372036854775807) :
    Calls Try.prog 3 #[.slice a len cap, .int .i64 a1, .int .i64 a2] w fun e w' => e = .returned (.bool true) ∧ Below w.heap.size w w' := by
  go_enter Try.func3, Try.ntmps3
  go_wp2_with (go_at_call 11; refine (works_any _).mono ?_; rintro e w' ⟨rfl, hb⟩)
  go_ret
  exact ⟨rfl, hb⟩

set_option maxHeartbeats 800000 in
theorem octetGets_walk (a0 : Option Addr) (len0 cap0 : Nat) (z0 : List Int) (a1 a2 : Int) (w : World) (w0 : IsRow .u8 w a0 len0 cap0 z0) (w1 : (Lit.int .i64 a1).wf = true) (w2 : (Lit.int .i64 a2).wf = true) :
    Calls Try.prog 3 #[.slice a0 len0 cap0, .int .i64 a1, .int .i64 a2] w fun e w' => e = .returned (.bool true) ∧ Below w.heap.size w w' := by
  obtain ⟨hr, hbyt, hcap, hmax⟩ := w0.reads
  obtain ⟨a1l, a1h⟩ := wf_i64_in w1
  obtain ⟨a2l, a2h⟩ := wf_i64_in w2
  unfold maxLen at hmax
  clear w0 w1 w2
  by_cases hlong : 131072 < len0
  · exact octetGets_long a0 len0 cap0 a1 a2 w hlong (by omega)
  have hshort : (len0 : Int) ≤ 131072 := by omega
  generalize z0.take len0 = zs at hr hbyt
  have HR := Lib.hid hr
  have HB := Lib.hid hbyt
  clear hr hbyt
  by_cases hc : (sizB a2 && hasB len0 a1 a2) = true
  · have hc2 := hc
    rw [Bool.and_eq_true] at hc2
    have hh := (hasB_iff len0 a1 a2).1 hc2.2
    obtain ⟨i, rfl⟩ := Int.eq_ofNat_of_zero_le hh.1
    obtain ⟨n, rfl⟩ := Int.eq_ofNat_of_zero_le hh.2.1
    have hi : i + n ≤ len0 := by omega
    have HS := Lib.hid hc2.1
    clear hc hc2 hh
    go_enter Try.func3, Try.ntmps3
    go_wp2_with fail
    refine (roomy_any a0 len0 cap0 zs w HR.out (by omega)).mono ?_
    rintro e w1 ⟨rfl, hb1, hk1⟩
    have HB1 := Lib.hid hb1
    have HK1 := Lib.hid hk1
    have HR1 := Lib.hid (show Reads w1 (some ⟨w.heap.size, 0, none⟩) len0 zs by have := hk1.reads 0 len0 (by have := HR.out.1; simp; omega); simpa [HR.out.1] using this)
    clear hb1 hk1
    go_wp2_with fail
    refine (get_yes _ len0 _ i n zs w1 HR1.out HB.out (by omega) HS.out hi).mono ?_
    rintro e w2 ⟨rfl, rfl⟩
    go_wp2_with fail
    refine (getR_yes a0 len0 cap0 i n zs w1 (HR.out.below HB1.out) HB.out hcap (by omega) HS.out hi).mono ?_
    rintro e w2 ⟨rfl, hb2⟩
    have HB2 := Lib.hid hb2
    clear hb2
    go_wp2_with fail
    refine (kept_yes a0 _ len0 cap0 zs w2 (HK1.out.below HB2.out) ((HR.out.below HB1.out).below HB2.out) HB.out (by omega)).mono ?_
    rintro e w3 ⟨rfl, hb3⟩
    have HB3 := Lib.hid hb3
    clear hb3
    go_wp2_with (go_at_call 11; refine (works_any _).mono ?_; rintro e w' ⟨rfl, hb4⟩)
    go_ret
    have s1 := HB1.out.size
    have s2 := HB2.out.size
    have s3 := HB3.out.size
    exact ⟨rfl, ((HB1.out.trans (HB2.out.mono s1)).trans (HB3.out.mono (by omega))).trans (hb4.mono (by omega))⟩
  · have hcf := Lib.hid (show (sizB a2 && hasB len0 a1 a2) = false by simpa using hc)
    clear hc
    go_enter Try.func3, Try.ntmps3
    go_wp2_with fail
    refine (roomy_any a0 len0 cap0 zs w HR.out (by omega)).mono ?_
    rintro e w1 ⟨rfl, hb1, hk1⟩
    have HB1 := Lib.hid hb1
    have HK1 := Lib.hid hk1
    have HR1 := Lib.hid (show Reads w1 (some ⟨w.heap.size, 0, none⟩) len0 zs by have := hk1.reads 0 len0 (by have := HR.out.1; simp; omega); simpa [HR.out.1] using this)
    clear hb1 hk1
    go_wp2_with fail
    refine (get_no _ len0 _ a1 a2 w1 (by omega) (by omega) hcf.out).mono ?_
    rintro e w2 ⟨rfl, rfl⟩
    go_wp2_with fail
    refine (getR_no a0 len0 cap0 a1 a2 zs w1 (HR.out.below HB1.out) hcap (by omega) (by omega) (by omega) hcf.out).mono ?_
    rintro e w2 ⟨rfl, hb2⟩
    have HB2 := Lib.hid hb2
    clear hb2
    go_wp2_with fail
    refine (kept_yes a0 _ len0 cap0 zs w2 (HK1.out.below HB2.out) ((HR.out.below HB1.out).below HB2.out) HB.out (by omega)).mono ?_
    rintro e w3 ⟨rfl, hb3⟩
    have HB3 := Lib.hid hb3
    clear hb3
    go_wp2_with (go_at_call 11; refine (works_any _).mono ?_; rintro e w' ⟨rfl, hb4⟩)
    go_ret
    have s1 := HB1.out.size
    have s2 := HB2.out.size
    have s3 := HB3.out.size
    exact ⟨rfl, ((HB1.out.trans (HB2.out.mono s1)).trans (HB3.out.mono (by omega))).trans (hb4.mono (by omega))⟩
end Go.Proofs.Ytjpeceplhdmaoaa
