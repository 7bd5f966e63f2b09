/-
  The walk of OctetCuts.
-/
import Derived.Test.YtjpeceplhdmaoaaWorks
import Derived.Test.YtjpeceplhdmaoaaFrame
import Derived.Test.YtjpeceplhdmaoaaRef00c
import Derived.Test.YtjpeceplhdmaoaaRef01b
import Derived.Test.YtjpeceplhdmaoaaApart
namespace Go.Proofs.Ytjpeceplhdmaoaa
open Go.RowKit
set_option linter.unusedVariables false

theorem inRow_val (g len : Nat) (zs : List Int) (hl : zs.length = len) : ARow.val (some (g, len, zs ++ List.replicate 16 90)) = .slice (some ⟨g, 0, none⟩) len (len + 16) := by
  have hlen : (zs ++ List.replicate 16 90).length = len + 16 := by simp only [List.length_append, hl, List.length_replicate]
  rw [← hlen]; rfl
theorem inRow_ok {w : World} {g len : Nat} {zs : List Int} (hl : zs.length = len) (hb : Blk w g (zs ++ List.replicate 16 90)) (hz : Byt zs) (h : len ≤ 1073741800) : ARow.ok w (some (g, len, zs ++ List.replicate 16 90)) := by
  have hlen : (zs ++ List.replicate 16 90).length = len + 16 := by simp only [List.length_append, hl, List.length_replicate]
  exact ⟨hb, hz.append (Byt.rep (by omega) (by omega) _), by omega, by omega⟩

set_option maxHeartbeats 1600000 in
set_option maxRecDepth 100000 in
theorem octetCuts_walk (a0 : Option Addr) (len0 cap0 : Nat) (z0 : List Int) (a1 a2 : Int) (w : World) (w0 : IsRow .u8 w a0 len0 cap0 z0) (w1 : (Lit.int .i64 a1).wf = true) (w2 : (Lit.int .i64 a2).wf = true) :
    Calls Try.prog 5 #[.slice a0 len0 cap0, .int .i64 a1, .int .i64 a2] w fun e w' => e = .returned (.bool true) ∧ Below w.heap.size w w' := by
  obtain ⟨hr, hbyt, hcap, hmax⟩ := w0.reads
  obtain ⟨a10, a11⟩ := wf_i64_in w1
  obtain ⟨a20, a21⟩ := wf_i64_in w2
  unfold maxLen at hmax
  clear w0 w1 w2
  by_cases hlong : 131072 < len0
  · go_enter Try.func5, Try.ntmps5
    go_wp2_with (go_at_call 11; refine (works_any _).mono ?_; rintro e w' ⟨rfl, hb⟩)
    go_ret
    exact ⟨rfl, hb⟩
  have hshort : (len0 : Int) ≤ 131072 := by omega
  generalize z0.take len0 = zs at hr hbyt
  have HR := Lib.hid hr
  have HB := Lib.hid hbyt
  have HL := Lib.hid hr.1
  clear hr hbyt
  by_cases hc : hasB len0 a1 a2 = true
  · have hh := (hasB_iff len0 a1 a2).1 hc
    obtain ⟨i, rfl⟩ := Int.eq_ofNat_of_zero_le hh.1
    obtain ⟨m, rfl⟩ := Int.eq_ofNat_of_zero_le hh.2.1
    have hi : i + m ≤ len0 := by omega
    clear hc hh
    obtain ⟨X, hX⟩ : ∃ X, X = (zs.drop i).take m := ⟨_, rfl⟩
    have hXl : X.length = m := by rw [hX]; simp [HL.out]; omega
    have HBx := Lib.hid (show Byt X by rw [hX]; exact (HB.out.drop i).take m)
    have P := fun a c W (h : Reads W a len0 zs) (hc : len0 ≤ c) => cut_yes a len0 c i m zs W h hc (by omega) hi
    have PR := fun a c W (h : Reads W a len0 zs) (hc : len0 ≤ c) => cutR_yes a len0 c i m zs W h hc (by omega) hi
    rw [← hX] at P PR
    have HP := Lib.hid P
    have HPR := Lib.hid PR
    have HXl := Lib.hid hXl
    clear P PR hX hXl
    go_enter Try.func5, Try.ntmps5
    go_wp2_with fail
    refine (roomy_any a0 len0 cap0 zs w HR.out (by omega)).mono ?_
    rintro e w1 ⟨rfl, hb1, hk1⟩
    have HB1 := Lib.hid hb1
    have HK1 := Lib.hid hk1
    have HR1 := Lib.hid (show Reads w1 (some ⟨w.heap.size, 0, none⟩) len0 zs by have := hk1.reads 0 len0 (by have := HL.out; simp; omega); simpa [HL.out] using this)
    clear hb1 hk1
    go_wp2_with fail
    refine (HP.out _ _ w1 HR1.out (by omega)).mono ?_
    rintro e w2 ⟨rfl, hb2, hk2⟩
    have HB2 := Lib.hid hb2
    have HK2 := Lib.hid hk2
    have HW2 := Lib.hid (HB1.out.trans (hb2.mono HB1.out.size))
    clear hb2 hk2
    go_wp2_with fail
    refine (HPR.out a0 cap0 w2 (HR.out.below HW2.out) hcap).mono ?_
    rintro e w3 ⟨a', rfl, hb3, hk3⟩
    have HB3 := Lib.hid hb3
    have HK3 := Lib.hid hk3
    have HW3 := Lib.hid (HW2.out.trans (hb3.mono HW2.out.size))
    clear hb3 hk3
    go_wp2_with fail
    refine (eqBytes_yes _ _ _ _ _ _ X X w3 ((HK2.out.below HB3.out).readsAll _ HXl.out.symm) HK3.out.reads HBx.out (by omega) rfl).mono ?_
    rintro e w4 ⟨rfl, hb4, _⟩
    have HB4 := Lib.hid hb4
    have HW4 := Lib.hid (HW3.out.trans (hb4.mono HW3.out.size))
    clear hb4
    go_wp2_with fail
    refine (kept_yes a0 _ len0 cap0 zs w4 (((HK1.out.below HB2.out).below HB3.out).below HB4.out) (HR.out.below HW4.out) HB.out (by omega)).mono ?_
    rintro e w5 ⟨rfl, hb5⟩
    have HB5 := Lib.hid hb5
    have HW5 := Lib.hid (HW4.out.trans (hb5.mono HW4.out.size))
    clear hb5
    go_wp2_with fail
    refine (HP.out _ _ w5 ((((HR1.out.below HB2.out).below HB3.out).below HB4.out).below HB5.out) (by omega)).mono ?_
    rintro e w6 ⟨rfl, hb6, hk6⟩
    have HB6 := Lib.hid hb6
    have HK6 := Lib.hid hk6
    have HW6 := Lib.hid (HW5.out.trans (hb6.mono HW5.out.size))
    clear hb6 hk6
    go_wp2_with fail
    have s1 := HB1.out.size
    have s2 := HB2.out.size
    have s3 := HB3.out.size
    have s4 := HB4.out.size
    have s5 := HB5.out.size
    have l1 := HK1.out.lt
    have l2 := HK2.out.lt
    have hm : X.length ≤ 131072 := by have := HXl.out; omega
    have o0 : ARow.ok w6 (some (w1.heap.size, X.length, X)) := ⟨(((HK2.out.below HB3.out).below HB4.out).below HB5.out).below HB6.out, HBx.out, Nat.le_refl _, by omega⟩
    have o1 : ARow.ok w6 (some (w5.heap.size, X.length, X)) := ⟨HK6.out, HBx.out, Nat.le_refl _, by omega⟩
    have o2 := inRow_ok HL.out (((((HK1.out.below HB2.out).below HB3.out).below HB4.out).below HB5.out).below HB6.out) HB.out (by omega)
    have A := apart_3 _ _ _ 22 w6 o0 o1 o2 (.inr (by simp [ARow.blk]; omega)) (.inr (by simp [ARow.blk]; omega)) (.inr (by simp [ARow.blk]; omega))
    rw [inRow_val _ _ _ HL.out] at A
    have hv0 : ∀ g, ARow.val (some (g, X.length, X)) = .slice (some ⟨g, 0, none⟩) m m := fun g => by rw [← HXl.out]; rfl
    rw [hv0, hv0] at A
    refine A.mono ?_
    rintro e w7 ⟨rfl, hb7⟩
    have HW7 := Lib.hid (HW6.out.trans (hb7.mono HW6.out.size))
    clear hb7 A hv0 o0 o1 o2 hm
    go_wp2_with (go_at_call 11; refine (works_any _).mono ?_; rintro e w' ⟨rfl, hb8⟩)
    go_ret
    exact ⟨rfl, HW7.out.trans (hb8.mono HW7.out.size)⟩
  · have hcf := Lib.hid (show hasB len0 a1 a2 = false by simpa using hc)
    clear hc
    go_enter Try.func5, Try.ntmps5
    go_wp2_with fail
    refine (roomy_any a0 len0 cap0 zs w HR.out (by omega)).mono ?_
    rintro e w1 ⟨rfl, hb1, hk1⟩
    have HB1 := Lib.hid hb1
    have HK1 := Lib.hid hk1
    clear hb1 hk1
    go_wp2_with fail
    refine (cut_no _ len0 _ a1 a2 w1 (by omega) (by omega) hcf.out).mono ?_
    rintro e w2 ⟨rfl, rfl⟩
    go_wp2_with fail
    refine (cutR_no a0 len0 cap0 a1 a2 w1 (by omega) (by omega) (by omega) hcf.out).mono ?_
    rintro e w2 ⟨rfl, rfl⟩
    go_wp2_with fail
    refine (eqBytes_yes none none 0 0 0 0 [] [] w1 (Reads.zero _ _) (Reads.zero _ _) Byt.nil (by omega) rfl).mono ?_
    rintro e w4 ⟨rfl, hb4, _⟩
    have HB4 := Lib.hid hb4
    have HW4 := Lib.hid (HB1.out.trans (hb4.mono HB1.out.size))
    clear hb4
    go_wp2_with fail
    refine (kept_yes a0 _ len0 cap0 zs w4 (HK1.out.below HB4.out) (HR.out.below HW4.out) HB.out (by omega)).mono ?_
    rintro e w5 ⟨rfl, hb5⟩
    have HB5 := Lib.hid hb5
    have HW5 := Lib.hid (HW4.out.trans (hb5.mono HW4.out.size))
    clear hb5
    go_wp2_with fail
    refine (cut_no _ len0 _ a1 a2 w5 (by omega) (by omega) hcf.out).mono ?_
    rintro e w6 ⟨rfl, rfl⟩
    go_wp2_with fail
    have o2 := inRow_ok HL.out ((HK1.out.below HB4.out).below HB5.out) HB.out (by omega)
    have A := apart_3 none none _ 22 w5 trivial trivial o2 (.inl rfl) (.inl rfl) (.inl rfl)
    rw [inRow_val _ _ _ HL.out] at A
    refine A.mono ?_
    rintro e w7 ⟨rfl, hb7⟩
    have HW7 := Lib.hid (HW5.out.trans (hb7.mono HW5.out.size))
    clear hb7 A o2
    go_wp2_with (go_at_call 11; refine (works_any _).mono ?_; rintro e w' ⟨rfl, hb8⟩)
    go_ret
    exact ⟨rfl, HW7.out.trans (hb8.mono HW7.out.size)⟩
end Go.Proofs.Ytjpeceplhdmaoaa
