/-
  The program's cookie: decode and Read. Written by genkp3.py.
-/
import Derived.Test.YtcmaclaiholpfaaDoorKP1
import Derived.Test.YtcmaclaiholpfaaDoorKApi
import Derived.Test.YtcmaclaiholpfaaDoorMacP4
import Derived.Test.YtcmaclaiholpfaaDoorMacSame
namespace Go.Proofs.YtcmaclaiholpfaaDoor
open Go.RowKit
set_option linter.unusedVariables false

set_option maxRecDepth 10000 in
set_option maxHeartbeats 3200000 in
theorem pdecode_any (b : Option Addr) (cap2 : Nat) (ys : List Int) (w : World) (hr2 : Reads w b 64 ys) (hy : Byt ys) :
    Calls Tryd.prog 26 #[.slice b 64 cap2] w fun e w' => e = .returned (decK ys).val ∧ Below w.heap.size w w' := by
  obtain ⟨w0, hw0⟩ : ∃ w0, w0 = w.alloc (.cells #[.int .i64 0, .int .u32 0, .int .u32 0, .int .u32 0, .int .u32 0, .int .u32 0, .int .u16 0, .int .u16 0] 26) := ⟨_, rfl⟩
  have hb0 : Below w.heap.size w w0 := by rw [hw0]; exact (Below.refl _ _).alloc (Nat.le_refl _) _
  have hA0 : Arr w0 w.heap.size 26 [.int .i64 0, .int .u32 0, .int .u32 0, .int .u32 0, .int .u32 0, .int .u32 0, .int .u16 0, .int .u16 0] := by rw [hw0]; exact arr_new _ _ _
  have hn := fun (i n : Nat) (h1 : sizB (n : Int) = true) (h2 : i + n ≤ 64) => pnum_any b 64 cap2 i n ys w0 (hr2.below hb0) hy (by omega) h1 h2
  obtain ⟨x0, e0⟩ : ∃ x, x = num ((ys.drop 0).take 8) := ⟨_, rfl⟩
  have n0 : 0 ≤ x0 ∧ x0 < 18446744073709551616 := by rw [e0]; exact num8 hy 0
  have hc0 := hn 0 8 rfl (by omega)
  rw [← e0] at hc0
  have HC0 := Lib.hid hc0
  clear hc0
  obtain ⟨x1, e1⟩ : ∃ x, x = num ((ys.drop 8).take 4) := ⟨_, rfl⟩
  have n1 : 0 ≤ x1 ∧ x1 < 4294967296 := by rw [e1]; exact num4 hy 8
  have hc1 := hn 8 4 rfl (by omega)
  rw [← e1] at hc1
  have HC1 := Lib.hid hc1
  clear hc1
  obtain ⟨x2, e2⟩ : ∃ x, x = num ((ys.drop 12).take 4) := ⟨_, rfl⟩
  have n2 : 0 ≤ x2 ∧ x2 < 4294967296 := by rw [e2]; exact num4 hy 12
  have hc2 := hn 12 4 rfl (by omega)
  rw [← e2] at hc2
  have HC2 := Lib.hid hc2
  clear hc2
  obtain ⟨x3, e3⟩ : ∃ x, x = num ((ys.drop 16).take 4) := ⟨_, rfl⟩
  have n3 : 0 ≤ x3 ∧ x3 < 4294967296 := by rw [e3]; exact num4 hy 16
  have hc3 := hn 16 4 rfl (by omega)
  rw [← e3] at hc3
  have HC3 := Lib.hid hc3
  clear hc3
  obtain ⟨x4, e4⟩ : ∃ x, x = num ((ys.drop 20).take 4) := ⟨_, rfl⟩
  have n4 : 0 ≤ x4 ∧ x4 < 4294967296 := by rw [e4]; exact num4 hy 20
  have hc4 := hn 20 4 rfl (by omega)
  rw [← e4] at hc4
  have HC4 := Lib.hid hc4
  clear hc4
  obtain ⟨x5, e5⟩ : ∃ x, x = num ((ys.drop 24).take 4) := ⟨_, rfl⟩
  have n5 : 0 ≤ x5 ∧ x5 < 4294967296 := by rw [e5]; exact num4 hy 24
  have hc5 := hn 24 4 rfl (by omega)
  rw [← e5] at hc5
  have HC5 := Lib.hid hc5
  clear hc5
  obtain ⟨x6, e6⟩ : ∃ x, x = num ((ys.drop 28).take 2) := ⟨_, rfl⟩
  have n6 : 0 ≤ x6 ∧ x6 < 65536 := by rw [e6]; exact num2 hy 28
  have hc6 := hn 28 2 rfl (by omega)
  rw [← e6] at hc6
  have HC6 := Lib.hid hc6
  clear hc6
  obtain ⟨x7, e7⟩ : ∃ x, x = num ((ys.drop 30).take 2) := ⟨_, rfl⟩
  have n7 : 0 ≤ x7 ∧ x7 < 65536 := by rw [e7]; exact num2 hy 30
  have hc7 := hn 30 2 rfl (by omega)
  rw [← e7] at hc7
  have HC7 := Lib.hid hc7
  clear hc7
  have hK : decK ys = ⟨wrap64 x0, x1, x2, x3, x4, x5, x6, x7⟩ := by
    rw [e0, i64K_wrap (by rw [← e0]; exact n0), e1, e2, e3, e4, e5, e6, e7]
    rfl
  have HK := Lib.hid hK
  have H0 := Lib.hid (And.intro hb0 (And.intro hA0 hw0))
  clear hn hr2 hy hb0 hA0 hw0 hK e0 e1 e2 e3 e4 e5 e6 e7
  go_enter Tryd.func26, Tryd.ntmps26
  go_wp2_with fail
  rw [← H0.out.2.2]
  refine HC0.out.mono ?_
  rintro e v ⟨rfl, rfl⟩
  clear HC0
  go_wp2_with fail
  refine HC1.out.mono ?_
  rintro e v ⟨rfl, rfl⟩
  clear HC1
  go_wp2_with fail
  refine HC2.out.mono ?_
  rintro e v ⟨rfl, rfl⟩
  clear HC2
  go_wp2_with fail
  refine HC3.out.mono ?_
  rintro e v ⟨rfl, rfl⟩
  clear HC3
  go_wp2_with fail
  refine HC4.out.mono ?_
  rintro e v ⟨rfl, rfl⟩
  clear HC4
  go_wp2_with fail
  refine HC5.out.mono ?_
  rintro e v ⟨rfl, rfl⟩
  clear HC5
  go_wp2_with fail
  refine HC6.out.mono ?_
  rintro e v ⟨rfl, rfl⟩
  clear HC6
  go_wp2_with fail
  refine HC7.out.mono ?_
  rintro e v ⟨rfl, rfl⟩
  clear HC7
  have y0 := H0.out.2.1.cell (i := 0) rfl
  have fr0 := H0.out.2.1.free 0
  have y1 := H0.out.2.1.cell (i := 1) rfl
  have fr1 := H0.out.2.1.free 1
  have y2 := H0.out.2.1.cell (i := 2) rfl
  have fr2 := H0.out.2.1.free 2
  have y3 := H0.out.2.1.cell (i := 3) rfl
  have fr3 := H0.out.2.1.free 3
  have y4 := H0.out.2.1.cell (i := 4) rfl
  have fr4 := H0.out.2.1.free 4
  have y5 := H0.out.2.1.cell (i := 5) rfl
  have fr5 := H0.out.2.1.free 5
  have y6 := H0.out.2.1.cell (i := 6) rfl
  have fr6 := H0.out.2.1.free 6
  have y7 := H0.out.2.1.cell (i := 7) rfl
  have fr7 := H0.out.2.1.free 7
  go_wp2_with fail
  obtain ⟨W3, hW3⟩ : ∃ W3, W3 = kset w0 w.heap.size ⟨wrap64 x0, x1, x2, x3, x4, x5, x6, x7⟩ := ⟨_, rfl⟩
  have hA9 : Arr W3 w.heap.size 26 (KV.cells ⟨wrap64 x0, x1, x2, x3, x4, x5, x6, x7⟩) := by rw [hW3]; exact kset_arr (k0 := noK) H0.out.2.1 ⟨wrap64 x0, x1, x2, x3, x4, x5, x6, x7⟩
  have hB9 : Below w.heap.size w W3 := by rw [hW3]; exact kset_below H0.out.1 (Nat.le_refl _) ⟨wrap64 x0, x1, x2, x3, x4, x5, x6, x7⟩
  have z0 := hA9.cell (i := 0) rfl
  have z1 := hA9.cell (i := 1) rfl
  have z2 := hA9.cell (i := 2) rfl
  have z3 := hA9.cell (i := 3) rfl
  have z4 := hA9.cell (i := 4) rfl
  have z5 := hA9.cell (i := 5) rfl
  have z6 := hA9.cell (i := 6) rfl
  have z7 := hA9.cell (i := 7) rfl
  unfold kset at hW3
  simp only [] at hW3
  rw [← hW3]
  clear hA9
  exact bodyPost_ret (by simp [results, Tryd.results26, go_sem, z0, z1, z2, z3, z4, z5, z6, z7] <;> rfl) rfl ⟨by rw [HK.out]; rfl, hB9⟩

set_option maxRecDepth 10000 in
set_option maxHeartbeats 3200000 in
theorem kread_ok : KReadOk := by
  intro a len cap zs b len2 cap2 ys w hr hz hl hc hr2 hy hl2 hc2 hm2 ht
  have hyl := hr2.1
  obtain ⟨w0, hw0⟩ : ∃ w0, w0 = w.alloc (.cells #[.int .i64 0, .int .u32 0, .int .u32 0, .int .u32 0, .int .u32 0, .int .u32 0, .int .u16 0, .int .u16 0] 26) := ⟨_, rfl⟩
  have hb0 : Below w.heap.size w w0 := by rw [hw0]; exact (Below.refl _ _).alloc (Nat.le_refl _) _
  have hA0 : Arr w0 w.heap.size 26 [.int .i64 0, .int .u32 0, .int .u32 0, .int .u32 0, .int .u32 0, .int .u32 0, .int .u16 0, .int .u16 0] := by rw [hw0]; exact arr_new _ _ _
  have hs0 : w0.heap.size = w.heap.size + 1 := by rw [hw0]; simp
  by_cases hlen : len2 = 64
  · subst hlen
    obtain ⟨gb, off, rfl⟩ := hr2.some_of (by omega)
    have hr3 := (hr2.below hb0).part 0 32 (by omega)
    rw [List.drop_zero, Nat.add_zero] at hr3
    have hs := msum_any a len cap zs (some ⟨gb, off, none⟩) 32 cap2 (ys.take 32) w0 (hr.below hb0) hz (by omega) hc hr3 (hy.take 32) (by omega) (by omega) (ht.below hb0 ht.lt)
    obtain ⟨H, hH⟩ : ∃ H, H = hmac zs (ys.take 32) := ⟨_, rfl⟩
    have hhb : Byt H := by rw [hH]; exact hmac_byt _ _
    have hhl : H.length = 32 := by rw [hH, hmac_len]
    obtain ⟨D, hD⟩ : ∃ D, D = H.map (Value.int .u8) := ⟨_, rfl⟩
    have hdl : D.length = 32 := by rw [hD, List.length_map, hhl]
    have infoD : (Tryd.prog.info? 46).map (·.size) = some D.length := by rw [hdl]; exact infoA
    have honed : D.toArray.all (·.oneCell') = true := by rw [hD]; exact dv_one _
    unfold dv at hs
    rw [← hH, ← hD, hw0] at hs
    have HS := Lib.hid hs
    have H0 := Lib.hid (And.intro hb0 (And.intro hA0 (And.intro hs0 hw0)))
    have HD := Lib.hid (And.intro hD (And.intro hdl (And.intro hhb (And.intro hhl hH))))
    have HY := Lib.hid (And.intro (hr2.below hb0) (And.intro hy hyl))
    clear hs hr hz hl hc hr2 hr3 hl2 hH hhb hhl hD hdl hb0 hA0 hs0 hw0 hyl hy ht
    have hcn : ¬ cap2 = 32 := by omega
    go_enter Tryd.func14, Tryd.ntmps14
    go_wp2_with fail
    refine HS.out.mono ?_
    rintro e w1 ⟨rfl, hb1⟩
    rw [← H0.out.2.2.2] at hb1
    obtain ⟨w2, hw2⟩ : ∃ w2, w2 = w1.alloc (.cells D.toArray 46) := ⟨_, rfl⟩
    have hb12 : Below w1.heap.size w1 w2 := by rw [hw2]; exact (Below.refl _ _).alloc (Nat.le_refl _) _
    have hd2 : Arr w2 w1.heap.size 46 (H.map (Value.int .u8)) := by rw [hw2, ← HD.out.1]; exact arr_new w1 46 D
    have hb02 : Below w0.heap.size w0 w2 := hb1.trans (hb12.mono hb1.size)
    have hb2 : Below w.heap.size w w2 := H0.out.1.trans (hb02.mono H0.out.1.size)
    have hA2 := H0.out.2.1.keep hb02
    have hy2 := HY.out.1.below hb02
    have hy3 := hy2.part 32 32 (by omega)
    rw [List.take_of_length_le (by simp; have := HY.out.2.2; omega)] at hy3
    have hrd := hd2.reads' HD.out.2.2.2.1
    have hsm := fun n => msame_any (some ⟨gb, off + 32, none⟩) (some ⟨w1.heap.size, 0, none⟩) 32 (cap2 - 32) 32 32 (ys.drop 32) H (w2.drewN n) (hy3.below (Below.of_drewN _ n)) (hrd.below (Below.of_drewN _ n)) (HY.out.2.1.drop 32) HD.out.2.2.1 (by omega) (by omega)
    have hlt : w.heap.size < w2.heap.size := Nat.lt_of_lt_of_le (show w.heap.size < w0.heap.size by have := H0.out.2.2.1; omega) hb02.size
    have H2 := Lib.hid (And.intro hb2 (And.intro hA2 (And.intro hy2 (And.intro hw2 hlt))))
    clear hb1 hb12 hd2 hb02 hb2 hA2 hy2 hy3 HS hlt hrd
    by_cases hEq : ys.drop 32 = H
    · have hsm' := fun n => quiet_as (hsm n)
      rw [decide_eq_true hEq, H2.out.2.2.2.1] at hsm'
      have HQ := Lib.hid hsm'
      clear hsm hsm'
      go_wp2_with (refine wpList_store_fresh rfl 46 (.tmp 6) (.tmp 15) rfl w1 _ rfl _ D.toArray rfl rfl (by simpa using infoD) (by simp [HD.out.2.1]) honed ?_)
      go_quiet (exact HQ.out _)
      rw [← H2.out.2.2.2.1]
      have hbq := Below.of_drewN w2 nq
      generalize w2.drewN nq = w3 at hbq ⊢
      have H3 := Lib.hid (And.intro (H2.out.1.trans (hbq.mono H2.out.1.size)) (And.intro (H2.out.2.1.keep hbq) (H2.out.2.2.1.below hbq)))
      have hde := pdecode_any (some ⟨gb, off, none⟩) cap2 ys w3 H3.out.2.2 HY.out.2.1
      obtain ⟨K, hK⟩ : ∃ K, K = decK ys := ⟨_, rfl⟩
      have hE : hmac zs (ys.take 32) = ys.drop 32 := by rw [← HD.out.2.2.2.2]; exact hEq.symm
      rw [← hK] at hde
      unfold KV.val at hde
      have HDE := Lib.hid hde
      have HK := Lib.hid (And.intro hK hE)
      clear hbq hde hK hE HQ
      go_wp2_with fail
      refine HDE.out.mono ?_
      rintro e w4 ⟨rfl, hb4⟩
      obtain ⟨w9, hw9⟩ : ∃ w9, w9 = w4.alloc (.cells K.cells.toArray 26) := ⟨_, rfl⟩
      have hb49 : Below w4.heap.size w4 w9 := by rw [hw9]; exact (Below.refl _ _).alloc (Nat.le_refl _) _
      have hK9 : Arr w9 w4.heap.size 26 K.cells := by rw [hw9]; exact arr_new _ _ _
      have hm := pmay_any K w9
      have hbb := hb4.trans (hb49.mono hb4.size)
      have HM9 := Lib.hid (And.intro hbb (And.intro hK9 hw9))
      rw [hw9] at hm
      obtain ⟨m, hm'⟩ : ∃ m, m = mayK K := ⟨_, rfl⟩
      rw [← hm'] at hm
      unfold KV.val KV.cells at hm
      rw [HK.out.1] at hm'
      have HMM := Lib.hid hm
      have HMK := Lib.hid hm'
      clear hb4 hb49 hK9 hm hw9 hm' hbb HDE
      go_wp2_with fail
      refine HMM.out.mono ?_
      rintro e w10 ⟨rfl, hb10⟩
      have e9 := HM9.out.2.2
      unfold KV.cells at e9
      rw [← e9] at hb10
      have h310 := HM9.out.1.trans (hb10.mono HM9.out.1.size)
      have hK10 := HM9.out.2.1.keep hb10
      have hA10 := H3.out.2.1.keep h310
      have hb := H3.out.1.trans (h310.mono H3.out.1.size)
      have y0 := hA10.cell (i := 0) rfl
      have fr0 := hA10.free 0
      have y1 := hA10.cell (i := 1) rfl
      have fr1 := hA10.free 1
      have y2 := hA10.cell (i := 2) rfl
      have fr2 := hA10.free 2
      have y3 := hA10.cell (i := 3) rfl
      have fr3 := hA10.free 3
      have y4 := hA10.cell (i := 4) rfl
      have fr4 := hA10.free 4
      have y5 := hA10.cell (i := 5) rfl
      have fr5 := hA10.free 5
      have y6 := hA10.cell (i := 6) rfl
      have fr6 := hA10.free 6
      have y7 := hA10.cell (i := 7) rfl
      have fr7 := hA10.free 7
      have HE := Lib.hid (And.intro hA10 hb)
      clear e9 hb10 h310 hA10 hb HMM HM9
      cases m
      · clear hK10
        go_wp2_with fail
        obtain ⟨W3, hW3⟩ : ∃ W3, W3 = kset w10 w.heap.size noK := ⟨_, rfl⟩
        have hA9 : Arr W3 w.heap.size 26 [.int .i64 0, .int .u32 0, .int .u32 0, .int .u32 0, .int .u32 0, .int .u32 0, .int .u16 0, .int .u16 0] := by rw [hW3]; exact kset_arr (k0 := noK) HE.out.1 noK
        have hB9 : Below w.heap.size w W3 := by rw [hW3]; exact kset_below HE.out.2 (Nat.le_refl _) noK
        have z0 := hA9.cell (i := 0) rfl
        have z1 := hA9.cell (i := 1) rfl
        have z2 := hA9.cell (i := 2) rfl
        have z3 := hA9.cell (i := 3) rfl
        have z4 := hA9.cell (i := 4) rfl
        have z5 := hA9.cell (i := 5) rfl
        have z6 := hA9.cell (i := 6) rfl
        have z7 := hA9.cell (i := 7) rfl
        unfold kset at hW3
        simp only [noK] at hW3
        rw [← hW3]
        clear hA9
        exact bodyPost_ret (by simp [results, Tryd.results14, go_sem, z0, z1, z2, z3, z4, z5, z6, z7] <;> rfl) rfl ⟨by rw [readK_may HY.out.2.2 HK.out.2 HMK.out.symm]; rfl, hB9⟩
      · have f0 := hK10.cell (i := 0) rfl
        have f1 := hK10.cell (i := 1) rfl
        have f2 := hK10.cell (i := 2) rfl
        have f3 := hK10.cell (i := 3) rfl
        have f4 := hK10.cell (i := 4) rfl
        have f5 := hK10.cell (i := 5) rfl
        have f6 := hK10.cell (i := 6) rfl
        have f7 := hK10.cell (i := 7) rfl
        clear hK10
        go_wp2_with fail
        obtain ⟨W3, hW3⟩ : ∃ W3, W3 = kset w10 w.heap.size K := ⟨_, rfl⟩
        have hA9 : Arr W3 w.heap.size 26 K.cells := by rw [hW3]; exact kset_arr (k0 := noK) HE.out.1 K
        have hB9 : Below w.heap.size w W3 := by rw [hW3]; exact kset_below HE.out.2 (Nat.le_refl _) K
        have z0 := hA9.cell (i := 0) rfl
        have z1 := hA9.cell (i := 1) rfl
        have z2 := hA9.cell (i := 2) rfl
        have z3 := hA9.cell (i := 3) rfl
        have z4 := hA9.cell (i := 4) rfl
        have z5 := hA9.cell (i := 5) rfl
        have z6 := hA9.cell (i := 6) rfl
        have z7 := hA9.cell (i := 7) rfl
        unfold kset at hW3
        rw [← hW3]
        clear hA9
        exact bodyPost_ret (by simp [results, Tryd.results14, go_sem, z0, z1, z2, z3, z4, z5, z6, z7] <;> rfl) rfl ⟨by rw [readK_ok HY.out.2.2 HK.out.2 HMK.out.symm, ← HK.out.1]; rfl, hB9⟩
    · have hsm' := fun n => quiet_as (hsm n)
      rw [decide_eq_false hEq, H2.out.2.2.2.1] at hsm'
      have HQ := Lib.hid hsm'
      clear hsm hsm'
      have hne : hmac zs (ys.take 32) ≠ ys.drop 32 := by rw [← HD.out.2.2.2.2]; exact fun h => hEq h.symm
      go_wp2_with (refine wpList_store_fresh rfl 46 (.tmp 6) (.tmp 15) rfl w1 _ rfl _ D.toArray rfl rfl (by simpa using infoD) (by simp [HD.out.2.1]) honed ?_)
      go_quiet (exact HQ.out _)
      rw [← H2.out.2.2.2.1]
      have hbq := Below.of_drewN w2 nq
      generalize w2.drewN nq = w3 at hbq ⊢
      have hA3 := H2.out.2.1.keep hbq
      have hB := H2.out.1.trans (hbq.mono H2.out.1.size)
      have y0 := hA3.cell (i := 0) rfl
      have fr0 := hA3.free 0
      have y1 := hA3.cell (i := 1) rfl
      have fr1 := hA3.free 1
      have y2 := hA3.cell (i := 2) rfl
      have fr2 := hA3.free 2
      have y3 := hA3.cell (i := 3) rfl
      have fr3 := hA3.free 3
      have y4 := hA3.cell (i := 4) rfl
      have fr4 := hA3.free 4
      have y5 := hA3.cell (i := 5) rfl
      have fr5 := hA3.free 5
      have y6 := hA3.cell (i := 6) rfl
      have fr6 := hA3.free 6
      have y7 := hA3.cell (i := 7) rfl
      have fr7 := hA3.free 7
      have HE := Lib.hid (And.intro hA3 hB)
      clear hA3 hB hbq
      go_wp2_with fail
      obtain ⟨W3, hW3⟩ : ∃ W3, W3 = kset w3 w.heap.size noK := ⟨_, rfl⟩
      have hA9 : Arr W3 w.heap.size 26 [.int .i64 0, .int .u32 0, .int .u32 0, .int .u32 0, .int .u32 0, .int .u32 0, .int .u16 0, .int .u16 0] := by rw [hW3]; exact kset_arr (k0 := noK) HE.out.1 noK
      have hB9 : Below w.heap.size w W3 := by rw [hW3]; exact kset_below HE.out.2 (Nat.le_refl _) noK
      have z0 := hA9.cell (i := 0) rfl
      have z1 := hA9.cell (i := 1) rfl
      have z2 := hA9.cell (i := 2) rfl
      have z3 := hA9.cell (i := 3) rfl
      have z4 := hA9.cell (i := 4) rfl
      have z5 := hA9.cell (i := 5) rfl
      have z6 := hA9.cell (i := 6) rfl
      have z7 := hA9.cell (i := 7) rfl
      unfold kset at hW3
      simp only [noK] at hW3
      rw [← hW3]
      clear hA9
      exact bodyPost_ret (by simp [results, Tryd.results14, go_sem, z0, z1, z2, z3, z4, z5, z6, z7] <;> rfl) rfl ⟨by rw [readK_mac HY.out.2.2 hne]; rfl, hB9⟩
  · rw [readK_len (by omega)]
    have hg : ((len2 : Int) == 64) = false := by simp; omega
    have hg2 : ((len2 : Int) != 64) = true := by simp; omega
    have y0 := hA0.cell (i := 0) rfl
    have fr0 := hA0.free 0
    have y1 := hA0.cell (i := 1) rfl
    have fr1 := hA0.free 1
    have y2 := hA0.cell (i := 2) rfl
    have fr2 := hA0.free 2
    have y3 := hA0.cell (i := 3) rfl
    have fr3 := hA0.free 3
    have y4 := hA0.cell (i := 4) rfl
    have fr4 := hA0.free 4
    have y5 := hA0.cell (i := 5) rfl
    have fr5 := hA0.free 5
    have y6 := hA0.cell (i := 6) rfl
    have fr6 := hA0.free 6
    have y7 := hA0.cell (i := 7) rfl
    have fr7 := hA0.free 7
    have HE := Lib.hid (And.intro hA0 (And.intro hb0 hw0))
    rw [hw0] at y0 fr0 y1 fr1 y2 fr2 y3 fr3 y4 fr4 y5 fr5 y6 fr6 y7 fr7
    clear hr hz hl hc hr2 hy hl2 hc2 hm2 hyl hA0 hb0 hw0 hs0 ht
    go_enter Tryd.func14, Tryd.ntmps14
    go_wp2_with fail
    rw [← HE.out.2.2]
    have z0 := HE.out.1.cell (i := 0) rfl
    have z1 := HE.out.1.cell (i := 1) rfl
    have z2 := HE.out.1.cell (i := 2) rfl
    have z3 := HE.out.1.cell (i := 3) rfl
    have z4 := HE.out.1.cell (i := 4) rfl
    have z5 := HE.out.1.cell (i := 5) rfl
    have z6 := HE.out.1.cell (i := 6) rfl
    have z7 := HE.out.1.cell (i := 7) rfl
    exact bodyPost_ret (by simp [results, Tryd.results14, go_sem, z0, z1, z2, z3, z4, z5, z6, z7] <;> rfl) rfl ⟨rfl, HE.out.2.1⟩
end Go.Proofs.YtcmaclaiholpfaaDoor
