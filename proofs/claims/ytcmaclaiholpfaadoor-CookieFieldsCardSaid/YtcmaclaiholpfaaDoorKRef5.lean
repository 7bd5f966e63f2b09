/-
  The reference of layer 11: Read.
-/
import Derived.Test.YtcmaclaiholpfaaDoorKRef4
import Derived.Test.YtcmaclaiholpfaaDoorMgA
import Derived.BigQuiet
import Derived.Deep.QuietTactic
namespace Go.Proofs.YtcmaclaiholpfaaDoor
open Go.RowKit
set_option linter.unusedVariables false

theorem noK_cells : noK.cells = [.int .i64 0, .int .u32 0, .int .u32 0, .int .u32 0, .int .u32 0, .int .u32 0, .int .u16 0, .int .u16 0] := rfl
/-- A cookie, stored in a box. -/
def kset (w : World) (g : Nat) (k : KV) : World := ((((((((w.setCell ⟨g, 0, none⟩ (.int .i64 k.born)).setCell ⟨g, 1, none⟩ (.int .u32 k.own)).setCell ⟨g, 2, none⟩ (.int .u32 k.peer)).setCell ⟨g, 3, none⟩ (.int .u32 k.otsn)).setCell ⟨g, 4, none⟩ (.int .u32 k.ptsn)).setCell ⟨g, 5, none⟩ (.int .u32 k.rwnd)).setCell ⟨g, 6, none⟩ (.int .u16 k.out)).setCell ⟨g, 7, none⟩ (.int .u16 k.inn))
theorem kset_arr {w : World} {g : Nat} {T : TypeId} {k0 : KV} (h : Arr w g T k0.cells) (k : KV) : Arr (kset w g k) g T k.cells := ((((((((h.set 0 _).set 1 _).set 2 _).set 3 _).set 4 _).set 5 _).set 6 _).set 7 _)
theorem kset_below {B : Nat} {a w : World} {g : Nat} (h : Below B a w) (hg : B ≤ g) (k : KV) : Below B a (kset w g k) := ((((((((h.setCell hg _).setCell hg _).setCell hg _).setCell hg _).setCell hg _).setCell hg _).setCell hg _).setCell hg _)
theorem infoK : (Tryd.prog.info? 26).map (·.size) = some 8 := by kernel_rfl
theorem i64K_wrap {x : Int} (h : 0 ≤ x ∧ x < 18446744073709551616) : wrap64 x = i64K x := by
  unfold wrap64 i64K; split <;> omega
theorem readK_len {zs ys : List Int} (h : ys.length ≠ 64) : readK zs ys = (noK, 7) := by unfold readK; rw [if_pos h]
theorem readK_mac {zs ys : List Int} (h : ys.length = 64) (h2 : hmac zs (ys.take 32) ≠ ys.drop 32) : readK zs ys = (noK, 10) := by unfold readK; rw [if_neg (by omega), if_pos h2]
theorem readK_may {zs ys : List Int} (h : ys.length = 64) (h2 : hmac zs (ys.take 32) = ys.drop 32) (h3 : mayK (decK ys) = false) : readK zs ys = (noK, 7) := by unfold readK; rw [if_neg (by omega), if_neg (by simp [h2]), if_neg (by simp [h3])]
theorem readK_ok {zs ys : List Int} (h : ys.length = 64) (h2 : hmac zs (ys.take 32) = ys.drop 32) (h3 : mayK (decK ys) = true) : readK zs ys = (decK ys, 0) := by unfold readK; rw [if_neg (by omega), if_neg (by simp [h2]), if_pos h3]

set_option maxRecDepth 10000 in
set_option maxHeartbeats 3200000 in
theorem rreadK_any (a : Option Addr) (len cap : Nat) (zs : List Int) (b : Option Addr) (len2 cap2 : Nat) (ys : List Int) (w : World) (hr : Reads w a len zs) (hz : Byt zs) (hl : len ≤ 1099511627776)
    (hr2 : Reads w b len2 ys) (hy : Byt ys) (hl2 : len2 ≤ 549755813888) (hc2 : len2 ≤ cap2) :
    Calls Tryd.prog 15 #[.slice a len cap, .slice b len2 cap2] w fun e w' => e = .returned (.tuple #[(readK zs ys).1.val, .int .i64 (readK zs ys).2]) ∧ Below w.heap.size w w' := by
  have hyl := hr2.1
  obtain ⟨w0, hw0⟩ : ∃ w0, w0 = (w.alloc (.cells #[.int .i64 0, .int .u32 0, .int .u32 0, .int .u32 0, .int .u32 0, .int .u32 0, .int .u16 0, .int .u16 0] 26)).alloc (.cells #[.int .i64 0, .int .u32 0, .int .u32 0, .int .u32 0, .int .u32 0, .int .u32 0, .int .u16 0, .int .u16 0] 26) := ⟨_, rfl⟩
  have hbA : Below w.heap.size w (w.alloc (.cells #[.int .i64 0, .int .u32 0, .int .u32 0, .int .u32 0, .int .u32 0, .int .u32 0, .int .u16 0, .int .u16 0] 26)) := (Below.refl _ _).alloc (Nat.le_refl _) _
  have hb0 : Below w.heap.size w w0 := by rw [hw0]; exact hbA.alloc hbA.size _
  have hA0 : Arr w0 w.heap.size 26 [.int .i64 0, .int .u32 0, .int .u32 0, .int .u32 0, .int .u32 0, .int .u32 0, .int .u16 0, .int .u16 0] := by
    rw [hw0]
    exact (arr_new w 26 [.int .i64 0, .int .u32 0, .int .u32 0, .int .u32 0, .int .u32 0, .int .u32 0, .int .u16 0, .int .u16 0]).keep ((Below.refl _ _).alloc (Nat.le_refl _) _)
  have hB0 : Arr w0 (w.heap.size + 1) 26 [.int .i64 0, .int .u32 0, .int .u32 0, .int .u32 0, .int .u32 0, .int .u32 0, .int .u16 0, .int .u16 0] := by
    rw [hw0]
    have := arr_new (w.alloc (.cells #[.int .i64 0, .int .u32 0, .int .u32 0, .int .u32 0, .int .u32 0, .int .u32 0, .int .u16 0, .int .u16 0] 26)) 26 [.int .i64 0, .int .u32 0, .int .u32 0, .int .u32 0, .int .u32 0, .int .u32 0, .int .u16 0, .int .u16 0]
    simpa using this
  have hs0 : w0.heap.size = w.heap.size + 2 := by rw [hw0]; simp
  by_cases hlen : len2 = 64
  · subst hlen
    obtain ⟨gb, off, rfl⟩ := hr2.some_of (by omega)
    have hr3 := (hr2.below hb0).part 0 32 (by omega)
    rw [List.drop_zero, Nat.add_zero] at hr3
    have hs := rsum_any a len cap zs (some ⟨gb, off, none⟩) 32 cap2 (ys.take 32) w0 (hr.below hb0) hz hl hr3 (hy.take 32) (by omega)
    obtain ⟨H, hH⟩ : ∃ H, H = hmac zs (ys.take 32) := ⟨_, rfl⟩
    have hhb : Byt H := by rw [hH]; exact hmac_byt _ _
    have hhl : H.length = 32 := by rw [hH, hmac_len]
    obtain ⟨D, hD⟩ : ∃ D, D = H.map (Value.int .u8) := ⟨_, rfl⟩
    have hdl : D.length = 32 := by rw [hD, List.length_map, hhl]
    have infoD : (Tryd.prog.info? 46).map (·.size) = some D.length := by rw [hdl]; exact infoA
    have honed : D.toArray.all (·.oneCell') = true := by rw [hD]; exact dv_one _
    unfold dv at hs
    rw [← hH, ← hD, hw0] at hs
    have HS := Lib.hid hs
    have H0 := Lib.hid (And.intro hb0 (And.intro hA0 (And.intro hB0 (And.intro hs0 hw0))))
    have HD := Lib.hid (And.intro hD (And.intro hdl (And.intro hhb (And.intro hhl hH))))
    have HY := Lib.hid (And.intro (hr2.below hb0) (And.intro hy hyl))
    clear hs hr hz hl hr2 hr3 hl2 hH hhb hhl hD hdl hb0 hbA hA0 hB0 hs0 hw0 hyl hy
    go_enter Tryd.func15, Tryd.ntmps15
    go_wp2_with fail
    refine HS.out.mono ?_
    rintro e w1 ⟨rfl, hb1⟩
    rw [← H0.out.2.2.2.2] at hb1
    obtain ⟨w2, hw2⟩ : ∃ w2, w2 = w1.alloc (.cells D.toArray 46) := ⟨_, rfl⟩
    have hb12 : Below w1.heap.size w1 w2 := by rw [hw2]; exact (Below.refl _ _).alloc (Nat.le_refl _) _
    have hd2 : Arr w2 w1.heap.size 46 (H.map (Value.int .u8)) := by rw [hw2, ← HD.out.1]; exact arr_new w1 46 D
    have hb02 : Below w0.heap.size w0 w2 := hb1.trans (hb12.mono hb1.size)
    have hb2 : Below w.heap.size w w2 := H0.out.1.trans (hb02.mono H0.out.1.size)
    have hA2 := H0.out.2.1.keep hb02
    have hB2 := H0.out.2.2.1.keep hb02
    have hy2 := HY.out.1.below hb02
    have hy3 := hy2.part 32 32 (by omega)
    rw [List.take_of_length_le (by simp; have := HY.out.2.2; omega)] at hy3
    have hq := strOfNums_beq HD.out.2.2.1 (HY.out.2.1.drop 32)
    have H2 := Lib.hid (And.intro hb2 (And.intro hA2 (And.intro hB2 (And.intro hy2 (And.intro hw2 (Nat.lt_of_lt_of_le (show w.heap.size < w0.heap.size by have := H0.out.2.2.2.1; omega) hb02.size))))))
    rw [hw2] at hd2 hy3
    have hc1 := fun n => conv_reads (c := 32) ((hd2.reads' HD.out.2.2.2.1).below (Below.of_drewN _ n))
    have hc3 := fun n => conv_reads (c := cap2 - 32) (hy3.below (Below.of_drewN _ n))
    clear hb1 hb12 hd2 hb02 hb2 hA2 hB2 hy2 hy3 HS
    have hcn : ¬ cap2 = 32 := by omega
    by_cases hEq : H = ys.drop 32
    · rw [decide_eq_true hEq] at hq
      go_wp2_with (refine wpList_store_fresh rfl 46 (.tmp 7) (.tmp 16) rfl w1 _ rfl _ D.toArray rfl rfl (by simpa using infoD) (by simp [HD.out.2.1]) honed ?_)
      go_quiet (fail)
      rw [← H2.out.2.2.2.2.1]
      have hbq := Below.of_drewN w2 nq
      generalize w2.drewN nq = w3 at hbq ⊢
      have H3 := Lib.hid (And.intro (H2.out.1.trans (hbq.mono H2.out.1.size)) (And.intro (H2.out.2.1.keep hbq) (And.intro (H2.out.2.2.1.keep hbq) (And.intro (H2.out.2.2.2.1.below hbq) (Nat.lt_of_lt_of_le H2.out.2.2.2.2.2 hbq.size)))))
      have hn := fun (i n : Nat) (W : World) (hB : Below w3.heap.size w3 W) (h1 : sizB (n : Int) = true) (h2 : i + n ≤ 64) => rnum_any (some ⟨gb, off, none⟩) 64 cap2 i n ys W (H3.out.2.2.2.1.below hB) HY.out.2.1 hc2 (by omega) h1 h2
      have HN := Lib.hid hn
      clear hbq hn hc1 hc3
      obtain ⟨x0, e0⟩ : ∃ x, x = num ((ys.drop 0).take 8) := ⟨_, rfl⟩
      have n0 : 0 ≤ x0 ∧ x0 < 18446744073709551616 := by rw [e0]; exact num8 HY.out.2.1 0
      obtain ⟨x1, e1⟩ : ∃ x, x = num ((ys.drop 8).take 4) := ⟨_, rfl⟩
      have n1 : 0 ≤ x1 ∧ x1 < 4294967296 := by rw [e1]; exact num4 HY.out.2.1 8
      obtain ⟨x2, e2⟩ : ∃ x, x = num ((ys.drop 12).take 4) := ⟨_, rfl⟩
      have n2 : 0 ≤ x2 ∧ x2 < 4294967296 := by rw [e2]; exact num4 HY.out.2.1 12
      obtain ⟨x3, e3⟩ : ∃ x, x = num ((ys.drop 16).take 4) := ⟨_, rfl⟩
      have n3 : 0 ≤ x3 ∧ x3 < 4294967296 := by rw [e3]; exact num4 HY.out.2.1 16
      obtain ⟨x4, e4⟩ : ∃ x, x = num ((ys.drop 20).take 4) := ⟨_, rfl⟩
      have n4 : 0 ≤ x4 ∧ x4 < 4294967296 := by rw [e4]; exact num4 HY.out.2.1 20
      obtain ⟨x5, e5⟩ : ∃ x, x = num ((ys.drop 24).take 4) := ⟨_, rfl⟩
      have n5 : 0 ≤ x5 ∧ x5 < 4294967296 := by rw [e5]; exact num4 HY.out.2.1 24
      obtain ⟨x6, e6⟩ : ∃ x, x = num ((ys.drop 28).take 2) := ⟨_, rfl⟩
      have n6 : 0 ≤ x6 ∧ x6 < 65536 := by rw [e6]; exact num2 HY.out.2.1 28
      obtain ⟨x7, e7⟩ : ∃ x, x = num ((ys.drop 30).take 2) := ⟨_, rfl⟩
      have n7 : 0 ≤ x7 ∧ x7 < 65536 := by rw [e7]; exact num2 HY.out.2.1 30
      have hK : decK ys = ⟨wrap64 x0, x1, x2, x3, x4, x5, x6, x7⟩ := by
        rw [e0, i64K_wrap (by rw [← e0]; exact n0), e1, e2, e3, e4, e5, e6, e7]
        rfl
      have hE : hmac zs (ys.take 32) = ys.drop 32 := by rw [← HD.out.2.2.2.2]; exact hEq
      have HK := Lib.hid (And.intro hK hE)
      have HX := Lib.hid (And.intro e0 (And.intro e1 (And.intro e2 (And.intro e3 (And.intro e4 (And.intro e5 (And.intro e6 e7)))))))
      clear hK hE e0 e1 e2 e3 e4 e5 e6 e7
      have hbw := Below.refl w3.heap.size w3
      have hc := HN.out 0 8 w3 hbw rfl (by omega)
      rw [← HX.out.1] at hc
      have HC0 := Lib.hid hc
      have HB0 := Lib.hid hbw
      clear hc hbw
      go_wp2_with fail
      refine HC0.out.mono ?_
      rintro e v1 ⟨rfl, hb⟩
      have hbw := HB0.out.trans (hb.mono HB0.out.size)
      clear hb HC0
      have hc := HN.out 8 4 v1 hbw rfl (by omega)
      rw [← HX.out.2.1] at hc
      have HC1 := Lib.hid hc
      have HB1 := Lib.hid hbw
      clear hc hbw
      go_wp2_with fail
      refine HC1.out.mono ?_
      rintro e v2 ⟨rfl, hb⟩
      have hbw := HB1.out.trans (hb.mono HB1.out.size)
      clear hb HC1
      have hc := HN.out 12 4 v2 hbw rfl (by omega)
      rw [← HX.out.2.2.1] at hc
      have HC2 := Lib.hid hc
      have HB2 := Lib.hid hbw
      clear hc hbw
      go_wp2_with fail
      refine HC2.out.mono ?_
      rintro e v3 ⟨rfl, hb⟩
      have hbw := HB2.out.trans (hb.mono HB2.out.size)
      clear hb HC2
      have hc := HN.out 16 4 v3 hbw rfl (by omega)
      rw [← HX.out.2.2.2.1] at hc
      have HC3 := Lib.hid hc
      have HB3 := Lib.hid hbw
      clear hc hbw
      go_wp2_with fail
      refine HC3.out.mono ?_
      rintro e v4 ⟨rfl, hb⟩
      have hbw := HB3.out.trans (hb.mono HB3.out.size)
      clear hb HC3
      have hc := HN.out 20 4 v4 hbw rfl (by omega)
      rw [← HX.out.2.2.2.2.1] at hc
      have HC4 := Lib.hid hc
      have HB4 := Lib.hid hbw
      clear hc hbw
      go_wp2_with fail
      refine HC4.out.mono ?_
      rintro e v5 ⟨rfl, hb⟩
      have hbw := HB4.out.trans (hb.mono HB4.out.size)
      clear hb HC4
      have hc := HN.out 24 4 v5 hbw rfl (by omega)
      rw [← HX.out.2.2.2.2.2.1] at hc
      have HC5 := Lib.hid hc
      have HB5 := Lib.hid hbw
      clear hc hbw
      go_wp2_with fail
      refine HC5.out.mono ?_
      rintro e v6 ⟨rfl, hb⟩
      have hbw := HB5.out.trans (hb.mono HB5.out.size)
      clear hb HC5
      have hc := HN.out 28 2 v6 hbw rfl (by omega)
      rw [← HX.out.2.2.2.2.2.2.1] at hc
      have HC6 := Lib.hid hc
      have HB6 := Lib.hid hbw
      clear hc hbw
      go_wp2_with fail
      refine HC6.out.mono ?_
      rintro e v7 ⟨rfl, hb⟩
      have hbw := HB6.out.trans (hb.mono HB6.out.size)
      clear hb HC6
      have hc := HN.out 30 2 v7 hbw rfl (by omega)
      rw [← HX.out.2.2.2.2.2.2.2] at hc
      have HC7 := Lib.hid hc
      have HB7 := Lib.hid hbw
      clear hc hbw
      go_wp2_with fail
      refine HC7.out.mono ?_
      rintro e v8 ⟨rfl, hb⟩
      have hbw := HB7.out.trans (hb.mono HB7.out.size)
      clear hb HC7
      obtain ⟨w9, hw9⟩ : ∃ w9, w9 = v8.alloc (.cells (KV.cells ⟨wrap64 x0, x1, x2, x3, x4, x5, x6, x7⟩).toArray 26) := ⟨_, rfl⟩
      have hb89 : Below v8.heap.size v8 w9 := by rw [hw9]; exact (Below.refl _ _).alloc (Nat.le_refl _) _
      have hK9 : Arr w9 v8.heap.size 26 (KV.cells ⟨wrap64 x0, x1, x2, x3, x4, x5, x6, x7⟩) := by rw [hw9]; exact arr_new _ _ _
      have hm := rmayK_any ⟨wrap64 x0, x1, x2, x3, x4, x5, x6, x7⟩ w9
      have HM9 := Lib.hid (And.intro (hbw.trans (hb89.mono hbw.size)) (And.intro hK9 hw9))
      rw [hw9] at hm
      obtain ⟨m, hm'⟩ : ∃ m, m = mayK ⟨wrap64 x0, x1, x2, x3, x4, x5, x6, x7⟩ := ⟨_, rfl⟩
      rw [← hm'] at hm
      unfold KV.val KV.cells at hm
      rw [← HK.out.1] at hm'
      have HMM := Lib.hid hm
      have HMK := Lib.hid hm'
      clear hb89 hK9 hm hw9 hm' hbw
      go_wp2_with fail
      refine HMM.out.mono ?_
      rintro e w10 ⟨rfl, hb10⟩
      have e9 := HM9.out.2.2
      unfold KV.cells at e9
      rw [← e9] at hb10
      have h310 := HM9.out.1.trans (hb10.mono HM9.out.1.size)
      have hK10 := HM9.out.2.1.keep hb10
      have hA10 := H3.out.2.1.keep h310
      have hB10 := H3.out.2.2.1.keep h310
      have hb := H3.out.1.trans (h310.mono H3.out.1.size)
      have y0 := hA10.cell (i := 0) rfl
      have fr0 := hA10.free 0
      have y1 := hA10.cell (i := 1) rfl
      have fr1 := hA10.free 1
      have y2 := hA10.cell (i := 2) rfl
      have fr2 := hA10.free 2
      have y3 := hA10.cell (i := 3) rfl
      have fr3 := hA10.free 3
      have y4 := hA10.cell (i := 4) rfl
      have fr4 := hA10.free 4
      have y5 := hA10.cell (i := 5) rfl
      have fr5 := hA10.free 5
      have y6 := hA10.cell (i := 6) rfl
      have fr6 := hA10.free 6
      have y7 := hA10.cell (i := 7) rfl
      have fr7 := hA10.free 7
      have HE := Lib.hid (And.intro hA10 hb)
      clear e9 hb10 h310 hA10 hb HMM HM9
      cases m
      · have f0 := hB10.cell (i := 0) rfl
        have f1 := hB10.cell (i := 1) rfl
        have f2 := hB10.cell (i := 2) rfl
        have f3 := hB10.cell (i := 3) rfl
        have f4 := hB10.cell (i := 4) rfl
        have f5 := hB10.cell (i := 5) rfl
        have f6 := hB10.cell (i := 6) rfl
        have f7 := hB10.cell (i := 7) rfl
        clear hB10 hK10
        go_wp2_with fail
        obtain ⟨W3, hW3⟩ : ∃ W3, W3 = kset w10 w.heap.size noK := ⟨_, rfl⟩
        have hA9 : Arr W3 w.heap.size 26 [.int .i64 0, .int .u32 0, .int .u32 0, .int .u32 0, .int .u32 0, .int .u32 0, .int .u16 0, .int .u16 0] := by rw [hW3]; exact kset_arr (k0 := noK) HE.out.1 noK
        have hB9 : Below w.heap.size w W3 := by rw [hW3]; exact kset_below HE.out.2 (Nat.le_refl _) noK
        have z0 := hA9.cell (i := 0) rfl
        have z1 := hA9.cell (i := 1) rfl
        have z2 := hA9.cell (i := 2) rfl
        have z3 := hA9.cell (i := 3) rfl
        have z4 := hA9.cell (i := 4) rfl
        have z5 := hA9.cell (i := 5) rfl
        have z6 := hA9.cell (i := 6) rfl
        have z7 := hA9.cell (i := 7) rfl
        unfold kset at hW3
        simp only [noK] at hW3
        rw [← hW3]
        clear hA9
        exact bodyPost_ret (by simp [results, Tryd.results15, go_sem, z0, z1, z2, z3, z4, z5, z6, z7] <;> rfl) rfl ⟨by rw [readK_may HY.out.2.2 HK.out.2 HMK.out.symm]; rfl, hB9⟩
      · have f0 := hK10.cell (i := 0) rfl
        have f1 := hK10.cell (i := 1) rfl
        have f2 := hK10.cell (i := 2) rfl
        have f3 := hK10.cell (i := 3) rfl
        have f4 := hK10.cell (i := 4) rfl
        have f5 := hK10.cell (i := 5) rfl
        have f6 := hK10.cell (i := 6) rfl
        have f7 := hK10.cell (i := 7) rfl
        clear hB10 hK10
        go_wp2_with fail
        obtain ⟨W3, hW3⟩ : ∃ W3, W3 = kset w10 w.heap.size ⟨wrap64 x0, x1, x2, x3, x4, x5, x6, x7⟩ := ⟨_, rfl⟩
        have hA9 : Arr W3 w.heap.size 26 (KV.cells ⟨wrap64 x0, x1, x2, x3, x4, x5, x6, x7⟩) := by rw [hW3]; exact kset_arr (k0 := noK) HE.out.1 ⟨wrap64 x0, x1, x2, x3, x4, x5, x6, x7⟩
        have hB9 : Below w.heap.size w W3 := by rw [hW3]; exact kset_below HE.out.2 (Nat.le_refl _) ⟨wrap64 x0, x1, x2, x3, x4, x5, x6, x7⟩
        have z0 := hA9.cell (i := 0) rfl
        have z1 := hA9.cell (i := 1) rfl
        have z2 := hA9.cell (i := 2) rfl
        have z3 := hA9.cell (i := 3) rfl
        have z4 := hA9.cell (i := 4) rfl
        have z5 := hA9.cell (i := 5) rfl
        have z6 := hA9.cell (i := 6) rfl
        have z7 := hA9.cell (i := 7) rfl
        unfold kset at hW3
        simp only [] at hW3
        rw [← hW3]
        clear hA9
        exact bodyPost_ret (by simp [results, Tryd.results15, go_sem, z0, z1, z2, z3, z4, z5, z6, z7] <;> rfl) rfl ⟨by rw [readK_ok HY.out.2.2 HK.out.2 HMK.out.symm, HK.out.1]; rfl, hB9⟩
    · rw [decide_eq_false hEq] at hq
      have hne : hmac zs (ys.take 32) ≠ ys.drop 32 := by rw [← HD.out.2.2.2.2]; exact hEq
      go_wp2_with (refine wpList_store_fresh rfl 46 (.tmp 7) (.tmp 16) rfl w1 _ rfl _ D.toArray rfl rfl (by simpa using infoD) (by simp [HD.out.2.1]) honed ?_)
      go_quiet (fail)
      rw [← H2.out.2.2.2.2.1]
      have hbq := Below.of_drewN w2 nq
      generalize w2.drewN nq = w3 at hbq ⊢
      have hA3 := H2.out.2.1.keep hbq
      have hB3 := H2.out.2.2.1.keep hbq
      have hB := H2.out.1.trans (hbq.mono H2.out.1.size)
      have f0 := hB3.cell (i := 0) rfl
      have f1 := hB3.cell (i := 1) rfl
      have f2 := hB3.cell (i := 2) rfl
      have f3 := hB3.cell (i := 3) rfl
      have f4 := hB3.cell (i := 4) rfl
      have f5 := hB3.cell (i := 5) rfl
      have f6 := hB3.cell (i := 6) rfl
      have f7 := hB3.cell (i := 7) rfl
      have y0 := hA3.cell (i := 0) rfl
      have fr0 := hA3.free 0
      have y1 := hA3.cell (i := 1) rfl
      have fr1 := hA3.free 1
      have y2 := hA3.cell (i := 2) rfl
      have fr2 := hA3.free 2
      have y3 := hA3.cell (i := 3) rfl
      have fr3 := hA3.free 3
      have y4 := hA3.cell (i := 4) rfl
      have fr4 := hA3.free 4
      have y5 := hA3.cell (i := 5) rfl
      have fr5 := hA3.free 5
      have y6 := hA3.cell (i := 6) rfl
      have fr6 := hA3.free 6
      have y7 := hA3.cell (i := 7) rfl
      have fr7 := hA3.free 7
      have HE := Lib.hid (And.intro hA3 hB)
      clear hA3 hB3 hB hbq
      go_wp2_with fail
      obtain ⟨W3, hW3⟩ : ∃ W3, W3 = kset w3 w.heap.size noK := ⟨_, rfl⟩
      have hA9 : Arr W3 w.heap.size 26 [.int .i64 0, .int .u32 0, .int .u32 0, .int .u32 0, .int .u32 0, .int .u32 0, .int .u16 0, .int .u16 0] := by rw [hW3]; exact kset_arr (k0 := noK) HE.out.1 noK
      have hB9 : Below w.heap.size w W3 := by rw [hW3]; exact kset_below HE.out.2 (Nat.le_refl _) noK
      have z0 := hA9.cell (i := 0) rfl
      have z1 := hA9.cell (i := 1) rfl
      have z2 := hA9.cell (i := 2) rfl
      have z3 := hA9.cell (i := 3) rfl
      have z4 := hA9.cell (i := 4) rfl
      have z5 := hA9.cell (i := 5) rfl
      have z6 := hA9.cell (i := 6) rfl
      have z7 := hA9.cell (i := 7) rfl
      unfold kset at hW3
      simp only [noK] at hW3
      rw [← hW3]
      clear hA9
      exact bodyPost_ret (by simp [results, Tryd.results15, go_sem, z0, z1, z2, z3, z4, z5, z6, z7] <;> rfl) rfl ⟨by rw [readK_mac HY.out.2.2 hne]; rfl, hB9⟩
  · rw [readK_len (by omega)]
    have hg : ((len2 : Int) == 64) = false := by simp; omega
    rw [hw0] at hA0 hb0
    have z0 := hA0.cell (i := 0) rfl
    have z1 := hA0.cell (i := 1) rfl
    have z2 := hA0.cell (i := 2) rfl
    have z3 := hA0.cell (i := 3) rfl
    have z4 := hA0.cell (i := 4) rfl
    have z5 := hA0.cell (i := 5) rfl
    have z6 := hA0.cell (i := 6) rfl
    have z7 := hA0.cell (i := 7) rfl
    have HE := Lib.hid hb0
    clear hr hz hl hr2 hy hl2 hc2 hyl hA0 hB0 hb0 hw0 hbA hs0
    go_enter Tryd.func15, Tryd.ntmps15
    go_wp2
    exact bodyPost_ret (by simp [results, Tryd.results15, go_sem, z0, z1, z2, z3, z4, z5, z6, z7] <;> rfl) rfl ⟨rfl, HE.out⟩
end Go.Proofs.YtcmaclaiholpfaaDoor
