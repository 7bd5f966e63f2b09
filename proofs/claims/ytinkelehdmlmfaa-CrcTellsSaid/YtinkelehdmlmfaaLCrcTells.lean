/-
  The walk of CrcTells.
-/
import Derived.Test.YtinkelehdmlmfaaCrc1
import Derived.Test.YtinkelehdmlmfaaFrame
import Derived.Test.YtinkelehdmlmfaaRef00c
namespace Go.Proofs.Ytinkelehdmlmfaa
open Go.RowKit
set_option linter.unusedVariables false

theorem Reads.pre {w : World} {a : Option Addr} {n : Nat} {zs : List Int} (h : Reads w a n zs) (k : Nat) (hk : k ≤ n) : Reads w a k (zs.take k) := by
  refine ⟨by simp [h.1]; omega, ?_⟩
  rcases h.2 with h2 | ⟨b, off, e, hlt, h2⟩
  · exact .inl (by omega)
  · exact .inr ⟨b, off, e, hlt, fun i hi => by rw [h2 i (by omega)]; simp [hi]⟩

theorem crcTells_long (WK : WorksOk) (a : Option Addr) (len cap : Nat) (x y : Int) (w : World) (h : 32768 < len) (hm : len ≤ 9223372036854775807) :
    Calls Try.prog 3 #[.slice a len cap, .int .u32 x, .int .u16 y] w fun e w' => e = .returned (.bool true) ∧ Below w.heap.size w w' := by
  go_enter Try.func3, Try.ntmps3
  go_wp2_with (go_at_call 9; refine (WK _).mono ?_; rintro e w' ⟨rfl, hb⟩)
  go_ret
  exact ⟨rfl, hb⟩

set_option maxHeartbeats 1600000 in
set_option maxRecDepth 100000 in
theorem crcTells_of (WK : WorksOk) (a0 : Option Addr) (len0 cap0 : Nat) (z0 : List Int) (a1 a2 : Int) (w : World) (w0 : IsRow .u8 w a0 len0 cap0 z0) (w1 : (Lit.int .u32 a1).wf = true) (w2 : (Lit.int .u16 a2).wf = true) :
    Calls Try.prog 3 #[.slice a0 len0 cap0, .int .u32 a1, .int .u16 a2] w fun e w' => e = .returned (.bool true) ∧ Below w.heap.size w w' := by
  obtain ⟨hr, hbyt, hcap, hmax⟩ := w0.reads
  obtain ⟨x0, x1⟩ := wf_u32_in w1
  obtain ⟨y0, y1⟩ := wf_u16_in w2
  unfold maxLen at hmax
  clear w0 w1 w2
  by_cases hlong : 32768 < len0
  · exact crcTells_long WK a0 len0 cap0 a1 a2 w hlong (by omega)
  have hshort : (len0 : Int) ≤ 32768 := by omega
  generalize z0.take len0 = zs at hr hbyt
  obtain ⟨s, rfl⟩ := Int.eq_ofNat_of_zero_le x0
  obtain ⟨c, rfl⟩ := Int.eq_ofNat_of_zero_le y0
  have hs : s < 4294967296 := by omega
  obtain ⟨k, hk⟩ : ∃ k, k = c % (len0 + 1) := ⟨_, rfl⟩
  have hkl : k ≤ len0 := by have := Nat.mod_lt c (show 0 < len0 + 1 by omega); omega
  have hke : (c : Int) % ((len0 : Int) + 1) = (k : Int) := by rw [hk]; simp
  have HK := Lib.hid hk
  have HR := Lib.hid hr
  have HB := Lib.hid hbyt
  have HL := Lib.hid hr.1
  clear hr hbyt hk
  have HWK := Lib.hid WK
  clear WK
  go_enter Try.func3, Try.ntmps3
  go_wp2_with fail
  refine (roomy_any a0 len0 cap0 zs w HR.out (by omega)).mono ?_
  rintro e w1 ⟨rfl, hb1, hk1⟩
  have hpart : Reads w1 (some ⟨w.heap.size, 0, none⟩) k (zs.take k) := by
    have := hk1.reads 0 k (by have := HL.out; simp; omega)
    rw [List.drop_zero, List.take_append_of_le_length (by rw [HL.out]; exact hkl)] at this
    exact this
  have hrest : Reads w1 (some ⟨w.heap.size, k, none⟩) (len0 - k) (zs.drop k) := by
    have := hk1.reads k (len0 - k) (by have := HL.out; simp; omega)
    rw [List.drop_append_of_le_length (by rw [HL.out]; exact hkl), List.take_append_of_le_length (by simp [HL.out]), List.take_of_length_le (by simp [HL.out])] at this
    exact this
  have hall : Reads w1 (some ⟨w.heap.size, 0, none⟩) len0 zs := by
    have := hk1.reads 0 len0 (by have := HL.out; simp; omega)
    rw [List.drop_zero, List.take_append_of_le_length (by rw [HL.out]; exact Nat.le_refl _), List.take_of_length_le (by rw [HL.out]; exact Nat.le_refl _)] at this
    exact this
  have HP := Lib.hid hpart
  have HS := Lib.hid hrest
  have HA := Lib.hid hall
  have HK1 := Lib.hid hk1
  have HB1 := Lib.hid hb1
  clear hpart hrest hall hk1 hb1
  go_wp2_with fail
  refine (extend_crc s _ k _ (zs.take k) w1 hs HP.out (HB.out.take k) (by omega)).mono ?_
  rintro e w' ⟨rfl, rfl⟩
  have HE := Lib.hid (show ext (ext s (zs.take k)) (zs.drop k) = ext s zs by rw [← ext_append, List.take_append_drop])
  go_wp2_with fail
  refine (extend_ref s _ k _ (zs.take k) w1 hs ((HR.out.below HB1.out).pre k hkl) (HB.out.take k) (by omega)).mono ?_
  rintro e w' ⟨rfl, rfl⟩
  go_wp2_with fail
  refine (extend_crc (ext s (zs.take k)) _ (len0 - k) _ (zs.drop k) w1 (ext_lt _ hs) HS.out (HB.out.drop k) (by omega)).mono ?_
  rintro e w' ⟨rfl, rfl⟩
  rw [HE.out]
  go_wp2_with fail
  refine (extend_ref s a0 len0 cap0 zs w1 hs (HR.out.below HB1.out) HB.out (by omega)).mono ?_
  rintro e w' ⟨rfl, rfl⟩
  go_wp2_with fail
  refine (sum_crc _ len0 _ zs w1 HA.out HB.out (by omega)).mono ?_
  rintro e w' ⟨rfl, rfl⟩
  go_wp2_with fail
  refine (extend_ref 0 a0 len0 cap0 zs w1 (by omega) (HR.out.below HB1.out) HB.out (by omega)).mono ?_
  rintro e w' ⟨rfl, rfl⟩
  go_wp2_with fail
  refine (kept_yes a0 w.heap.size len0 cap0 zs w1 HK1.out (HR.out.below HB1.out) HB.out (by omega)).mono ?_
  rintro e w2 ⟨rfl, hb2⟩
  have HB2 := Lib.hid hb2
  clear hb2
  go_wp2_with (go_at_call 9; refine (HWK.out _).mono ?_; rintro e w' ⟨rfl, hb⟩)
  go_ret
  have s1 := HB1.out.size
  have s2 := HB2.out.size
  exact ⟨rfl, (HB1.out.trans (HB2.out.mono s1)).trans (hb.mono (Nat.le_trans s1 s2))⟩
end Go.Proofs.Ytinkelehdmlmfaa
