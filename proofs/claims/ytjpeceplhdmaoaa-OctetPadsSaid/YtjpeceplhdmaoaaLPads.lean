/-
  The walk of OctetPads.
-/
import Derived.Test.YtjpeceplhdmaoaaLCuts
namespace Go.Proofs.Ytjpeceplhdmaoaa
open Go.RowKit
set_option linter.unusedVariables false

theorem up4_up4 (n : Nat) : up4 (up4 n) = up4 n := by unfold up4; omega

set_option maxHeartbeats 1600000 in
set_option maxRecDepth 100000 in
theorem octetPads_walk (a0 : Option Addr) (len0 cap0 : Nat) (z0 : List Int) (w : World) (w0 : IsRow .u8 w a0 len0 cap0 z0) :
    Calls Try.prog 6 #[.slice a0 len0 cap0] w fun e w' => e = .returned (.bool true) ∧ Below w.heap.size w w' := by
  obtain ⟨hr, hbyt, hcap, hmax⟩ := w0.reads
  unfold maxLen at hmax
  clear w0
  by_cases hlong : 131072 < len0
  · go_enter Try.func6, Try.ntmps6
    go_wp2_with (go_at_call 11; refine (works_any _).mono ?_; rintro e w' ⟨rfl, hb⟩)
    go_ret
    exact ⟨rfl, hb⟩
  have hshort : (len0 : Int) ≤ 131072 := by omega
  generalize z0.take len0 = zs at hr hbyt
  have HR := Lib.hid hr
  have HB := Lib.hid hbyt
  have HL := Lib.hid hr.1
  clear hr hbyt
  have g1 := up4_ge len0
  have g2 := up4_le len0
  have HU := Lib.hid (up4_up4 len0)
  generalize hM : up4 len0 = M at *
  obtain ⟨X, hX⟩ : ∃ X, X = zs ++ List.replicate (M - len0) 0 := ⟨_, rfl⟩
  have hXl : X.length = M := by rw [hX]; simp [HL.out]; omega
  have HBx := Lib.hid (show Byt X by rw [hX]; exact HB.out.append (Byt.rep (by omega) (by omega) _))
  have P := fun a c W (h : Reads W a len0 zs) => pad_any a len0 c zs W h (by omega)
  have PR := fun a c W (h : Reads W a len0 zs) => padR_any a len0 c zs W h (by omega)
  have P2 := fun a c W (h : Reads W a M X) => pad_any a M c X W h (by omega)
  rw [hM, ← hX] at P PR
  rw [HU.out, Nat.sub_self] at P2
  simp only [List.replicate_zero, List.append_nil] at P2
  have HP := Lib.hid P
  have HPR := Lib.hid PR
  have HP2 := Lib.hid P2
  have HXl := Lib.hid hXl
  clear P PR P2 hX hXl hM
  go_enter Try.func6, Try.ntmps6
  go_wp2_with fail
  refine (roomy_any a0 len0 cap0 zs w HR.out (by omega)).mono ?_
  rintro e w1 ⟨rfl, hb1, hk1⟩
  have HB1 := Lib.hid hb1
  have HK1 := Lib.hid hk1
  have HR1 := Lib.hid (show Reads w1 (some ⟨w.heap.size, 0, none⟩) len0 zs by have := hk1.reads 0 len0 (by have := HL.out; simp; omega); simpa [HL.out] using this)
  clear hb1 hk1
  go_wp2_with fail
  refine (HP.out _ _ w1 HR1.out).mono ?_
  rintro e w2 ⟨rfl, hb2, hk2⟩
  have HB2 := Lib.hid hb2
  have HK2 := Lib.hid hk2
  have HW2 := Lib.hid (HB1.out.trans (hb2.mono HB1.out.size))
  clear hb2 hk2
  go_wp2_with fail
  refine (HPR.out a0 cap0 w2 (HR.out.below HW2.out)).mono ?_
  rintro e w3 ⟨a', c', rfl, hb3, hk3⟩
  have HB3 := Lib.hid hb3
  have HK3 := Lib.hid hk3
  have HW3 := Lib.hid (HW2.out.trans (hb3.mono HW2.out.size))
  clear hb3 hk3
  go_wp2_with fail
  refine (eqBytes_yes _ _ _ _ _ _ X X w3 ((HK2.out.below HB3.out).readsAll _ HXl.out.symm) HK3.out.reads HBx.out (by omega) rfl).mono ?_
  rintro e w4 ⟨rfl, hb4, -⟩
  have HB4 := Lib.hid hb4
  have HW4 := Lib.hid (HW3.out.trans (hb4.mono HW3.out.size))
  clear hb4
  go_wp2_with fail
  refine (kept_yes a0 _ len0 cap0 zs w4 (((HK1.out.below HB2.out).below HB3.out).below HB4.out) (HR.out.below HW4.out) HB.out (by omega)).mono ?_
  rintro e w5 ⟨rfl, hb5⟩
  have HB5 := Lib.hid hb5
  have HW5 := Lib.hid (HW4.out.trans (hb5.mono HW4.out.size))
  clear hb5
  go_wp2_with fail
  refine (HP.out _ _ w5 ((((HR1.out.below HB2.out).below HB3.out).below HB4.out).below HB5.out)).mono ?_
  rintro e w6 ⟨rfl, hb6, hk6⟩
  have HB6 := Lib.hid hb6
  have HK6 := Lib.hid hk6
  have HW6 := Lib.hid (HW5.out.trans (hb6.mono HW5.out.size))
  clear hb6 hk6
  go_wp2_with fail
  refine (HP2.out _ _ w6 (HK6.out.readsAll _ HXl.out.symm)).mono ?_
  rintro e w7 ⟨rfl, hb7, hk7⟩
  have HB7 := Lib.hid hb7
  have HK7 := Lib.hid hk7
  have HW7 := Lib.hid (HW6.out.trans (hb7.mono HW6.out.size))
  clear hb7 hk7
  go_wp2_with fail
  refine (eqBytes_yes _ _ _ _ _ _ X X w7 (HK7.out.readsAll _ HXl.out.symm) ((((((HK2.out.below HB3.out).below HB4.out).below HB5.out).below HB6.out).below HB7.out).readsAll _ HXl.out.symm) HBx.out (by omega) rfl).mono ?_
  rintro e w8 ⟨rfl, hb8, -⟩
  have HB8 := Lib.hid hb8
  have HW8 := Lib.hid (HW7.out.trans (hb8.mono HW7.out.size))
  clear hb8
  go_wp2_with fail
  have s1 := HB1.out.size
  have s2 := HB2.out.size
  have s3 := HB3.out.size
  have s4 := HB4.out.size
  have s5 := HB5.out.size
  have l1 := HK1.out.lt
  have l2 := HK2.out.lt
  have hm : X.length ≤ 131075 := by have := HXl.out; omega
  have o0 : ARow.ok w8 (some (w1.heap.size, X.length, X)) := ⟨(((((HK2.out.below HB3.out).below HB4.out).below HB5.out).below HB6.out).below HB7.out).below HB8.out, HBx.out, Nat.le_refl _, by omega⟩
  have o1 : ARow.ok w8 (some (w5.heap.size, X.length, X)) := ⟨(HK6.out.below HB7.out).below HB8.out, HBx.out, Nat.le_refl _, by omega⟩
  have o2 := inRow_ok HL.out (((((((HK1.out.below HB2.out).below HB3.out).below HB4.out).below HB5.out).below HB6.out).below HB7.out).below HB8.out) HB.out (by omega)
  have A := apart_3 _ _ _ 22 w8 o0 o1 o2 (.inr (by simp [ARow.blk]; omega)) (.inr (by simp [ARow.blk]; omega)) (.inr (by simp [ARow.blk]; omega))
  rw [inRow_val _ _ _ HL.out] at A
  have hv0 : ∀ g, ARow.val (some (g, X.length, X)) = .slice (some ⟨g, 0, none⟩) M M := fun g => by rw [← HXl.out]; rfl
  rw [hv0, hv0] at A
  refine A.mono ?_
  rintro e w9 ⟨rfl, hb9⟩
  have HW9 := Lib.hid (HW8.out.trans (hb9.mono HW8.out.size))
  clear hb9 A hv0 o0 o1 o2 hm
  go_wp2_with (go_at_call 11; refine (works_any _).mono ?_; rintro e w' ⟨rfl, hb10⟩)
  go_ret
  exact ⟨rfl, HW9.out.trans (hb10.mono HW9.out.size)⟩
end Go.Proofs.Ytjpeceplhdmaoaa
