/-
  The reference of layer 11: Derive.
-/
import Derived.Test.YtcmaclaiholpfaaDoorKRef1
import Derived.Test.YtcmaclaiholpfaaDoorMacRef2
namespace Go.Proofs.YtcmaclaiholpfaaDoor
open Go.RowKit
set_option linter.unusedVariables false

theorem powK4 : (256 : Int) ^ 4 = 4294967296 := by decide
theorem powK2 : (256 : Int) ^ 2 = 65536 := by decide
theorem powK8 : (256 : Int) ^ 8 = 18446744073709551616 := by decide
theorem num4 {b : List Int} (h : Byt b) (i : Nat) : 0 ≤ num ((b.drop i).take 4) ∧ num ((b.drop i).take 4) < 4294967296 := powK4 ▸ decK_num h i 4
theorem num2 {b : List Int} (h : Byt b) (i : Nat) : 0 ≤ num ((b.drop i).take 2) ∧ num ((b.drop i).take 2) < 65536 := powK2 ▸ decK_num h i 2
theorem num8 {b : List Int} (h : Byt b) (i : Nat) : 0 ≤ num ((b.drop i).take 8) ∧ num ((b.drop i).take 8) < 18446744073709551616 := powK8 ▸ decK_num h i 8

set_option maxRecDepth 10000 in
set_option maxHeartbeats 1600000 in
theorem rderive_any (a : Option Addr) (len cap : Nat) (zs : List Int) (b : Option Addr) (len2 cap2 : Nat) (ys : List Int) (w : World) (hr : Reads w a len zs) (hz : Byt zs) (hl : len ≤ 1099511627776)
    (hr2 : Reads w b len2 ys) (hy : Byt ys) (hl2 : len2 ≤ 549755813888) :
    Calls Tryd.prog 19 #[.slice a len cap, .slice b len2 cap2] w fun e w' => e = .returned (.tuple #[.int .u32 (deriveK zs ys).1, .int .u32 (deriveK zs ys).2]) ∧ Below w.heap.size w w' := by
  have hs := rsum_any a len cap zs b len2 cap2 ys w hr hz hl hr2 hy hl2
  obtain ⟨H, hH⟩ : ∃ H, H = hmac zs ys := ⟨_, rfl⟩
  have hhb : Byt H := by rw [hH]; exact hmac_byt _ _
  have hhl : H.length = 32 := by rw [hH, hmac_len]
  obtain ⟨D, hD⟩ : ∃ D, D = H.map (Value.int .u8) := ⟨_, rfl⟩
  have hdl : D.length = 32 := by rw [hD, List.length_map, hhl]
  have infoD : (Tryd.prog.info? 46).map (·.size) = some D.length := by rw [hdl]; exact infoA
  have honed : D.toArray.all (·.oneCell') = true := by rw [hD]; exact dv_one _
  unfold dv at hs
  rw [← hH, ← hD] at hs
  obtain ⟨x, hx⟩ : ∃ x, x = num ((H.drop 0).take 4) := ⟨_, rfl⟩
  obtain ⟨y, hy'⟩ : ∃ y, y = num ((H.drop 4).take 4) := ⟨_, rfl⟩
  have bx : 0 ≤ x ∧ x < 4294967296 := by rw [hx]; exact num4 hhb 0
  have by' : 0 ≤ y ∧ y < 4294967296 := by rw [hy']; exact num4 hhb 4
  have e1 : deriveK zs ys = (if x = 0 then 1 else x, y) := by unfold deriveK; rw [hx, hy', hH, List.drop_zero]
  rw [e1]
  have HS := Lib.hid hs
  have H0 := Lib.hid (And.intro hD (And.intro hdl (And.intro hhb (And.intro hhl (And.intro hx hy')))))
  clear hs hr hz hl hr2 hy hl2 hH hhb hhl hD hdl hx hy' e1
  go_enter Tryd.func19, Tryd.ntmps19
  go_wp2_with fail
  refine HS.out.mono ?_
  rintro e w1 ⟨rfl, hb1⟩
  obtain ⟨w2, hw2⟩ : ∃ w2, w2 = w1.alloc (.cells D.toArray 46) := ⟨_, rfl⟩
  have hb12 : Below w1.heap.size w1 w2 := by rw [hw2]; exact (Below.refl _ _).alloc (Nat.le_refl _) _
  have hd2 : Arr w2 w1.heap.size 46 (H.map (Value.int .u8)) := by rw [hw2, ← H0.out.1]; exact arr_new w1 46 D
  have hb2 := hb1.trans (hb12.mono hb1.size)
  have hrd := hd2.reads' H0.out.2.2.2.1
  have hn := rnum_any (some ⟨w1.heap.size, 0, none⟩) 32 32 0 4 H w2 hrd H0.out.2.2.1 (Nat.le_refl _) (by omega) rfl (by omega)
  rw [← H0.out.2.2.2.2.1, hw2] at hn
  have HN := Lib.hid hn
  have H2 := Lib.hid (And.intro hb2 (And.intro hd2 hw2))
  clear hb1 hb12 hd2 hb2 hrd hn hw2 HS
  go_wp2_with (refine wpList_store_fresh rfl 46 (.tmp 6) (.tmp 10) rfl w1 _ rfl _ D.toArray rfl rfl (by simpa using infoD) (by simp [H0.out.2.1]) honed ?_)
  refine HN.out.mono ?_
  rintro e w3 ⟨rfl, hb3⟩
  rw [← H2.out.2.2] at hb3
  have hd3 := H2.out.2.1.keep hb3
  have hn := rnum_any (some ⟨w1.heap.size, 0, none⟩) 32 32 4 4 H w3 (hd3.reads' H0.out.2.2.2.1) H0.out.2.2.1 (Nat.le_refl _) (by omega) rfl (by omega)
  rw [← H0.out.2.2.2.2.2] at hn
  have HM := Lib.hid hn
  have H3 := Lib.hid (H2.out.1.trans (hb3.mono H2.out.1.size))
  clear hb3 hd3 hn HN
  by_cases x0 : x = 0
  · subst x0
    go_wp2_with fail
    refine HM.out.mono ?_
    rintro e w4 ⟨rfl, hb4⟩
    have H4 := Lib.hid (H3.out.trans (hb4.mono H3.out.size))
    clear hb4
    go_wp2
    go_ret2
    exact ⟨by simp [*], H4.out⟩
  · have x1 : (x == 0) = false := by simpa using x0
    go_wp2_with fail
    refine HM.out.mono ?_
    rintro e w4 ⟨rfl, hb4⟩
    have H4 := Lib.hid (H3.out.trans (hb4.mono H3.out.size))
    clear hb4
    go_wp2
    go_ret2
    exact ⟨by simp [*], H4.out⟩
end Go.Proofs.YtcmaclaiholpfaaDoor
