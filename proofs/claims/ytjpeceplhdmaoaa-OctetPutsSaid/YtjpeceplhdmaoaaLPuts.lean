/-
  The walk of OctetPuts.
-/
import Derived.Test.YtjpeceplhdmaoaaWorks
import Derived.Test.YtjpeceplhdmaoaaFrame
import Derived.Test.YtjpeceplhdmaoaaRef00c
import Derived.Test.YtjpeceplhdmaoaaRef01b
import Derived.Test.YtjpeceplhdmaoaaApart
namespace Go.Proofs.Ytjpeceplhdmaoaa
open Go.RowKit
set_option linter.unusedVariables false

/-- The bytes that Put lays behind others: none, if the size is no size. -/
def encS (x n : Int) : List Int := if sizB n = true then enc x n.toNat else []
theorem encS_byt (x n : Int) : Byt (encS x n) := by
  unfold encS; split
  · exact enc_byt _ _
  · exact Byt.nil
theorem encS_len (x n : Int) : (encS x n).length ≤ 8 := by
  unfold encS; split
  · rename_i h; have := (sizB_iff n).1 h; simp; omega
  · simp

theorem put_all (a : Option Addr) (len cap : Nat) (n x : Int) (zs : List Int) (w : World) (hr : Reads w a len zs) (hl : len ≤ 140737488355328) (hx0 : 0 ≤ x) (hx1 : x ≤ 18446744073709551615) :
    Calls Try.prog 16 #[.slice a len cap, .int .u64 x, .int .i64 n] w fun e w' =>
      e = .returned (.slice (some ⟨w.heap.size, 0, none⟩) (zs ++ encS x n).length (zs ++ encS x n).length) ∧ Below w.heap.size w w' ∧ Blk w' w.heap.size (zs ++ encS x n) := by
  by_cases h : sizB n = true
  · obtain ⟨m, rfl⟩ := Int.eq_ofNat_of_zero_le (show 0 ≤ n by have := (sizB_iff n).1 h; omega)
    have := put_yes a len cap m x zs w hr hl hx0 hx1 h
    simpa [encS, h, hr.1] using this
  · have := put_no a len cap n x zs w hr hl (by simpa using h)
    simpa [encS, h, hr.1] using this

theorem putR_all (a : Option Addr) (len cap : Nat) (n x : Int) (zs : List Int) (w : World) (hr : Reads w a len zs) (hl : len ≤ 70368744177664) (hx0 : 0 ≤ x) :
    Calls Try.prog 18 #[.slice a len cap, .int .u64 x, .int .i64 n] w fun e w' =>
      ∃ a' c', e = .returned (.slice a' (zs ++ encS x n).length c') ∧ Below w.heap.size w w' ∧ Row8 w.heap.size w' a' (zs ++ encS x n).length c' (zs ++ encS x n) := by
  by_cases h : sizB n = true
  · obtain ⟨m, rfl⟩ := Int.eq_ofNat_of_zero_le (show 0 ≤ n by have := (sizB_iff n).1 h; omega)
    have := putR_yes a len cap m x zs w hr hl hx0 h
    simpa [encS, h, hr.1] using this
  · have := putR_no a len cap n x zs w hr (by omega) (by simpa using h)
    simpa [encS, h, hr.1] using this

set_option maxHeartbeats 1600000 in
set_option maxRecDepth 100000 in
theorem octetPuts_walk (a0 : Option Addr) (len0 cap0 : Nat) (z0 : List Int) (a1 a2 : Int) (w : World) (w0 : IsRow .u8 w a0 len0 cap0 z0) (w1 : (Lit.int .u64 a1).wf = true) (w2 : (Lit.int .i64 a2).wf = true) :
    Calls Try.prog 4 #[.slice a0 len0 cap0, .int .u64 a1, .int .i64 a2] w fun e w' => e = .returned (.bool true) ∧ Below w.heap.size w w' := by
  obtain ⟨hr, hbyt, hcap, hmax⟩ := w0.reads
  obtain ⟨x0, x1⟩ := wf_u64_in w1
  unfold maxLen at hmax
  clear w0 w1 w2
  by_cases hlong : 131072 < len0
  · go_enter Try.func4, Try.ntmps4
    go_wp2_with (go_at_call 11; refine (works_any _).mono ?_; rintro e w' ⟨rfl, hb⟩)
    go_ret
    exact ⟨rfl, hb⟩
  have hshort : (len0 : Int) ≤ 131072 := by omega
  generalize z0.take len0 = zs at hr hbyt
  have HR := Lib.hid hr
  have HB := Lib.hid hbyt
  have HL := Lib.hid hr.1
  have HBx := Lib.hid (hbyt.append (encS_byt a1 a2))
  obtain ⟨X, hX⟩ : ∃ X, X = zs ++ encS a1 a2 := ⟨_, rfl⟩
  have hXl : X.length ≤ len0 + 8 := by rw [hX]; have := encS_len a1 a2; simp [hr.1]; omega
  have P := fun a c W (h : Reads W a len0 zs) => put_all a len0 c a2 a1 zs W h (by omega) x0 x1
  have PR := fun a c W (h : Reads W a len0 zs) => putR_all a len0 c a2 a1 zs W h (by omega) x0
  rw [← hX] at P PR
  have HP := Lib.hid P
  have HPR := Lib.hid PR
  rw [← hX] at HBx
  clear hr hbyt P PR hX
  go_enter Try.func4, Try.ntmps4
  go_wp2_with fail
  refine (roomy_any a0 len0 cap0 zs w HR.out (by omega)).mono ?_
  rintro e w1 ⟨rfl, hb1, hk1⟩
  have HB1 := Lib.hid hb1
  have HK1 := Lib.hid hk1
  have HR1 := Lib.hid (show Reads w1 (some ⟨w.heap.size, 0, none⟩) len0 zs by have := hk1.reads 0 len0 (by have := HL.out; simp; omega); simpa [HL.out] using this)
  clear hb1 hk1
  go_wp2_with fail
  refine (HP.out _ _ w1 HR1.out).mono ?_
  rintro e w2 ⟨rfl, hb2, hk2⟩
  have HB2 := Lib.hid hb2
  have HK2 := Lib.hid hk2
  have HW2 := Lib.hid (HB1.out.trans (hb2.mono HB1.out.size))
  clear hb2 hk2
  go_wp2_with fail
  refine (HPR.out a0 cap0 w2 (HR.out.below HW2.out)).mono ?_
  rintro e w3 ⟨a', c', rfl, hb3, hk3⟩
  have HB3 := Lib.hid hb3
  have HK3 := Lib.hid hk3
  have HW3 := Lib.hid (HW2.out.trans (hb3.mono HW2.out.size))
  clear hb3 hk3
  go_wp2_with fail
  refine (eqBytes_yes _ _ _ _ _ _ X X w3 ((HK2.out.below HB3.out).readsAll _ rfl) HK3.out.reads HBx.out (by omega) rfl).mono ?_
  rintro e w4 ⟨rfl, hb4, _⟩
  have HB4 := Lib.hid hb4
  have HW4 := Lib.hid (HW3.out.trans (hb4.mono HW3.out.size))
  clear hb4
  go_wp2_with fail
  refine (kept_yes a0 _ len0 cap0 zs w4 (((HK1.out.below HB2.out).below HB3.out).below HB4.out) (HR.out.below HW4.out) HB.out (by omega)).mono ?_
  rintro e w5 ⟨rfl, hb5⟩
  have HB5 := Lib.hid hb5
  have HW5 := Lib.hid (HW4.out.trans (hb5.mono HW4.out.size))
  clear hb5
  go_wp2_with fail
  refine (HP.out _ _ w5 ((((HR1.out.below HB2.out).below HB3.out).below HB4.out).below HB5.out)).mono ?_
  rintro e w6 ⟨rfl, hb6, hk6⟩
  have HB6 := Lib.hid hb6
  have HK6 := Lib.hid hk6
  have HW6 := Lib.hid (HW5.out.trans (hb6.mono HW5.out.size))
  clear hb6 hk6
  go_wp2_with fail
  have s1 := HB1.out.size
  have s2 := HB2.out.size
  have s3 := HB3.out.size
  have s4 := HB4.out.size
  have s5 := HB5.out.size
  have l1 := HK1.out.lt
  have l2 := HK2.out.lt
  have o0 : ARow.ok w6 (some (w1.heap.size, X.length, X)) := ⟨(((HK2.out.below HB3.out).below HB4.out).below HB5.out).below HB6.out, HBx.out, Nat.le_refl _, by omega⟩
  have o1 : ARow.ok w6 (some (w5.heap.size, X.length, X)) := ⟨HK6.out, HBx.out, Nat.le_refl _, by omega⟩
  have hlen : (zs ++ List.replicate 16 90).length = len0 + 16 := by simp only [List.length_append, HL.out, List.length_replicate]
  have o2 : ARow.ok w6 (some (w.heap.size, len0, zs ++ List.replicate 16 90)) := ⟨((((HK1.out.below HB2.out).below HB3.out).below HB4.out).below HB5.out).below HB6.out, HB.out.append (Byt.rep (by omega) (by omega) _), by omega, by omega⟩
  have A := apart_3 _ _ _ 22 w6 o0 o1 o2 (.inr (by simp [ARow.blk]; omega)) (.inr (by simp [ARow.blk]; omega)) (.inr (by simp [ARow.blk]; omega))
  have hv : ARow.val (some (w.heap.size, len0, zs ++ List.replicate 16 90)) = .slice (some ⟨w.heap.size, 0, none⟩) len0 (len0 + 16) := by rw [← hlen]; rfl
  rw [hv] at A
  refine A.mono ?_
  rintro e w7 ⟨rfl, hb7⟩
  have HW7 := Lib.hid (HW6.out.trans (hb7.mono HW6.out.size))
  clear hb7 A hv o0 o1 o2 hlen
  go_wp2_with (go_at_call 11; refine (works_any _).mono ?_; rintro e w' ⟨rfl, hb8⟩)
  go_ret
  exact ⟨rfl, HW7.out.trans (hb8.mono HW7.out.size)⟩
end Go.Proofs.Ytjpeceplhdmaoaa
