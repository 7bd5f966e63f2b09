/-
  The walk of BodiesSack. Written by gensack.py.
-/
import Derived.Test.YtlihcckgnnnekaaBdMany
namespace Go.Proofs.Ytlihcckgnnnekaa
open Go.RowKit
set_option linter.unusedVariables false
set_option linter.unusedSimpArgs false
set_option linter.unnecessarySimpa false

set_option maxRecDepth 100000 in
set_option maxHeartbeats 1600000 in
theorem manyS_any (s0 s1 : Int) (ga : Option Addr) (gl gk : Nat) (da : Option Addr) (dl dk : Nat) (w : World) :
    Calls Try.prog 28 #[.agg #[.int .u32 s0, .int .u32 s1, .slice ga gl gk, .slice da dl dk], .agg #[.int .u32 0, .slice none 0 0]] w fun e w' => e = .returned (.bool (decide (2048 < gl ∨ 2048 < dl))) ∧ Below w.heap.size w w' := by
  obtain ⟨w0, hw0⟩ : ∃ w0, w.alloc (.cells #[.int .u32 s0, .int .u32 s1, .slice ga gl gk, .slice da dl dk] 52) = w0 := ⟨_, rfl⟩
  have hb0 : Below w.heap.size w w0 := by rw [← hw0]; exact (Below.refl _ _).alloc (Nat.le_refl _) _
  have hs0 : w0.heap.size = w.heap.size + 1 := by rw [← hw0]; simp
  have ha0 : Arr w0 w.heap.size 52 [.int .u32 s0, .int .u32 s1, .slice ga gl gk, .slice da dl dk] := by rw [← hw0]; exact arr_new _ _ _
  obtain ⟨w1, hw1⟩ : ∃ w1, w0.alloc (.cells #[.int .u32 0, .slice none 0 0] 56) = w1 := ⟨_, rfl⟩
  have hb1 : Below w0.heap.size w0 w1 := by rw [← hw1]; exact (Below.refl _ _).alloc (Nat.le_refl _) _
  have hk1 : Arr w1 (w.heap.size + 1) 56 [.int .u32 0, .slice none 0 0] := by rw [← hw1, ← hs0]; exact arr_new _ _ _
  have ha1 := ha0.keep hb1
  have c2 := ha1.cell (i := 2) rfl
  have c3 := ha1.cell (i := 3) rfl
  have d1 := hk1.cell (i := 1) rfl
  have HB := Lib.hid (hb0.trans (hb1.mono hb0.size))
  clear hb0 hb1 ha0 ha1 hk1
  by_cases h3 : 2048 < gl
  · have g3 : (2048 : Int) < gl := by omega
    rw [decide_eq_true (by omega)]
    clear h3
    go_enter Try.func28, Try.ntmps28
    go_wp2; go_ret; exact ⟨rfl, HB.out⟩
  have g3 : ¬ (2048 : Int) < gl := by omega
  by_cases h4 : 2048 < dl
  · have g4 : (2048 : Int) < dl := by omega
    rw [decide_eq_true (by omega)]
    clear h3 h4
    go_enter Try.func28, Try.ntmps28
    go_wp2; go_ret; exact ⟨rfl, HB.out⟩
  have g4 : ¬ (2048 : Int) < dl := by omega
  rw [decide_eq_false (by omega)]
  clear h3 h4
  go_enter Try.func28, Try.ntmps28
  go_wp2; go_ret; exact ⟨rfl, HB.out⟩

/-- What the operations of the drawn region leave behind. -/
def LFq (w w6 : World) (k f : Int) (p : Option Addr) (n c : Nat) (zs : List Int) (i : Nat) (v : Value) (W : World) : Prop := match i with | 0 => v = .pointer (some ⟨w.heap.size + 1, 0, none⟩) | 1 => v = .int .u8 k | 2 => v = .pointer (some ⟨w.heap.size + 1, 1, none⟩) | 3 => v = .int .u8 f | 4 => v = .pointer (some ⟨w.heap.size + 1, 2, none⟩) | 5 => v = .slice p n c | 6 => ∃ gr, v = .slice (some ⟨gr, 0, none⟩) n (n + 16) ∧ w6.heap.size ≤ gr ∧ Blk W gr (zs ++ List.replicate 16 90) | 7 => ∃ gr_45, v = .agg #[.int .u8 k, .int .u8 f, .slice (some ⟨gr_45, 0, none⟩) n (n + 16)] ∧ w6.heap.size ≤ gr_45 ∧ Blk W gr_45 (zs ++ List.replicate 16 90) | 8 => ∃ gn, v = .pointer (some ⟨gn, 0, none⟩) ∧ w6.heap.size ≤ gn ∧ Arr W gn 28 [.int .u8 0, .int .u8 0, .slice none 0 0] | _ => True
theorem LFq_mono {w w6 : World} {k f : Int} {p : Option Addr} {n c : Nat} {zs : List Int} {W W' : World} (hb : Below W.heap.size W W') (jo : Nat) (xo : Value) (h : LFq w w6 k f p n c zs jo xo W) : LFq w w6 k f p n c zs jo xo W' := by
  unfold LFq at h ⊢
  split at h <;> try exact h
  · obtain ⟨gr, e0, h0_0, h0_1⟩ := h
    exact ⟨gr, e0, h0_0, h0_1.below hb⟩
  · obtain ⟨gr_45, e0, h0_0, h0_1⟩ := h
    exact ⟨gr_45, e0, h0_0, h0_1.below hb⟩
  · obtain ⟨gn, e0, h0_0, h0_1⟩ := h
    exact ⟨gn, e0, h0_0, h0_1.keep hb⟩

/-- What the operations of the drawn region leave behind. -/
def LFr (w wr : World) (s0 s1 X Y er k f : Int) (ga : Option Addr) (gl gk : Nat) (gs0 : List (Int × Int)) (da : Option Addr) (dl dk : Nat) (ds0 : List Int) (p : Option Addr) (n c : Nat) (ra : Option Addr) (rc : Nat) (ta : Option Addr) (tc : Nat) (pa : Option Addr) (LP pc : Nat) (xa : Option Addr) (m xc : Nat) (xb : Option Addr) (md xd : Nat) (ya : Option Addr) (yc : Nat) (yb : Option Addr) (yd : Nat) (gi gp gq g6 gx gy : Nat) (i : Nat) (v : Value) (W : World) : Prop := match i with | 0 => v = .agg #[.int .u8 3, .int .u8 0, .slice pa LP pc] | 1 => v = .agg #[.int .u32 s0, .int .u32 s1, .slice ga gl gk, .slice da dl dk] | 2 => ∃ b1 e1, v = .agg #[.int .u8 3, .int .u8 0, .slice b1 (sackB s0 s1 gs0 ds0).length e1] ∧ Reads W b1 (sackB s0 s1 gs0 ds0).length (sackB s0 s1 gs0 ds0) | 3 => v = .bool true | 4 => v = .bool true | 5 => v = .agg #[.int .u32 s0, .int .u32 s1, .slice ra gl rc, .slice ta dl tc] | 6 => v = .agg #[.int .u32 s0, .int .u32 s1, .slice ga gl gk, .slice da dl dk] | 7 => v = .bool true | 8 => v = .bool true | 9 => v = .bool true | 10 => v = .pointer (some ⟨gq, 2, none⟩) | 11 => v = .slice (some ⟨g6, 0, none⟩) n (n + 16) | 12 => v = .pointer (some ⟨w.heap.size + 1, 2, none⟩) | 13 => v = .slice p n c | 14 => v = .bool true | 15 => v = .bool true | 16 => v = .bool true | 17 => v = .int .i64 er | 18 => v = .int .i64 er | 19 => v = .bool true | 20 => v = .bool true | 21 => v = .bool true | 22 => v = .agg #[.int .u32 X, .int .u32 Y, .slice xa m xc, .slice xb md xd] | 23 => v = .agg #[.int .u32 X, .int .u32 Y, .slice ya m yc, .slice yb md yd] | 24 => v = .bool true | 25 => v = .bool true | 26 => v = .bool true | 27 => v = .bool true | 28 => v = .bool true | 29 => v = .bool true | _ => True
theorem LFr_mono {w wr : World} {s0 s1 X Y er k f : Int} {ga : Option Addr} {gl gk : Nat} {gs0 : List (Int × Int)} {da : Option Addr} {dl dk : Nat} {ds0 : List Int} {p : Option Addr} {n c : Nat} {ra : Option Addr} {rc : Nat} {ta : Option Addr} {tc : Nat} {pa : Option Addr} {LP pc : Nat} {xa : Option Addr} {m xc : Nat} {xb : Option Addr} {md xd : Nat} {ya : Option Addr} {yc : Nat} {yb : Option Addr} {yd : Nat} {gi gp gq g6 gx gy : Nat} {W W' : World} (hb : Below W.heap.size W W') (jo : Nat) (xo : Value) (h : LFr w wr s0 s1 X Y er k f ga gl gk gs0 da dl dk ds0 p n c ra rc ta tc pa LP pc xa m xc xb md xd ya yc yb yd gi gp gq g6 gx gy jo xo W) : LFr w wr s0 s1 X Y er k f ga gl gk gs0 da dl dk ds0 p n c ra rc ta tc pa LP pc xa m xc xb md xd ya yc yb yd gi gp gq g6 gx gy jo xo W' := by
  unfold LFr at h ⊢
  split at h <;> try exact h
  · obtain ⟨b1, e1, e0, h0_0⟩ := h
    exact ⟨b1, e1, e0, h0_0.below hb⟩

set_option maxRecDepth 100000 in
set_option maxHeartbeats 3200000 in
theorem bodiesSack_walk (s0 s1 : Int) (ga : Option Addr) (gl gk : Nat) (gs0 : List (Int × Int)) (da : Option Addr) (dl dk : Nat) (ds0 : List Int) (k f : Int) (p : Option Addr) (n c : Nat) (z : List Int) (w : World) (vf0 : (Lit.int .u32 s0).wf = true) (vf1 : (Lit.int .u32 s1).wf = true) (vgs : Prs w ga gl gs0 ∧ gl ≤ gk) (vds : Nums .u32 w da dl ds0 ∧ dl ≤ dk) (wk : (Lit.int .u8 k).wf = true) (wf : (Lit.int .u8 f).wf = true) (w0 : IsRow .u8 w p n c z) :
    Calls Try.prog 5 #[.agg #[.int .u32 s0, .int .u32 s1, .slice ga gl gk, .slice da dl dk], .agg #[.int .u8 k, .int .u8 f, .slice p n c]] w fun e w' => e = .returned (.bool true) ∧ Below w.heap.size w w' := by
  obtain ⟨hr, hbyt, hcap, hmax⟩ := w0.reads
  obtain ⟨ls0, hs0'⟩ : 0 ≤ s0 ∧ s0 < 4294967296 := by have := wf_u32_in vf0; omega
  obtain ⟨ls1, hs1'⟩ : 0 ≤ s1 ∧ s1 < 4294967296 := by have := wf_u32_in vf1; omega
  obtain ⟨hgs, hgk⟩ := vgs
  obtain ⟨hds, hdk⟩ := vds
  clear w0 wk wf vf0 vf1
  generalize z.take n = zs at hr hbyt
  unfold maxLen at hmax
  obtain ⟨wa, hwa⟩ : ∃ wa, w.alloc (.cells #[.int .u32 s0, .int .u32 s1, .slice ga gl gk, .slice da dl dk] 52) = wa := ⟨_, rfl⟩
  have hba : Below w.heap.size w wa := by rw [← hwa]; exact (Below.refl _ _).alloc (Nat.le_refl _) _
  have hsa : wa.heap.size = w.heap.size + 1 := by rw [← hwa]; simp
  have hXa : Arr wa w.heap.size 52 [.int .u32 s0, .int .u32 s1, .slice ga gl gk, .slice da dl dk] := by rw [← hwa]; exact arr_new _ _ _
  obtain ⟨wb, hwb⟩ : ∃ wb, wa.alloc (.cells #[.int .u8 k, .int .u8 f, .slice p n c] 28) = wb := ⟨_, rfl⟩
  have hbb : Below wa.heap.size wa wb := by rw [← hwb]; exact chunkBelow _ _ _ _
  have hsb : wb.heap.size = w.heap.size + 2 := by rw [← hwb]; simp; omega
  have hCb : Arr wb (w.heap.size + 1) 28 [.int .u8 k, .int .u8 f, .slice p n c] := by rw [← hwb, ← hsa]; exact chunkBox _ _ _ _
  have hbw := hba.trans (hbb.mono hba.size)
  have hXb := hXa.keep hbb
  have c0 := hCb.cell (i := 0) rfl
  have c1 := hCb.cell (i := 1) rfl
  have c2 := hCb.cell (i := 2) rfl
  have d0 := hXb.cell (i := 0) rfl
  have d1 := hXb.cell (i := 1) rfl
  have d2 := hXb.cell (i := 2) rfl
  have d3 := hXb.cell (i := 3) rfl
  obtain ⟨lg, hlg⟩ : ∃ lg, lg = decide (8192 < n) := ⟨_, rfl⟩
  have HLA := Lib.hid (large_any k f p n c wb lg hlg)
  have HR0 := Lib.hid (And.intro hr (And.intro hbyt hcap))
  have HFS := Lib.hid (And.intro hgs hds)
  have H0 := Lib.hid (And.intro hbw (And.intro hXb hCb))
  clear hr hbyt hba hXa hbb hCb hbw hXb hgs hds
  go_enter Try.func5, Try.ntmps5
  go_wp2_with fail
  refine HLA.out.mono ?_
  rintro e w1 ⟨rfl, hb1⟩
  have HB1 := Lib.hid (H0.out.1.trans (hb1.mono H0.out.1.size))
  have HX1 := Lib.hid (H0.out.2.1.keep hb1)
  have HC1 := Lib.hid (H0.out.2.2.keep hb1)
  clear hb1 H0 HLA c0 c1 c2 d0 d1 d2 d3
  have d0 := HX1.out.cell (i := 0) rfl
  have d1 := HX1.out.cell (i := 1) rfl
  have d2 := HX1.out.cell (i := 2) rfl
  have d3 := HX1.out.cell (i := 3) rfl
  have c0 := HC1.out.cell (i := 0) rfl
  have c1 := HC1.out.cell (i := 1) rfl
  have c2 := HC1.out.cell (i := 2) rfl
  cases lg with
  | true =>
    clear hlg
    go_wp2_with (go_at_call 13; refine (works_any _).mono ?_; rintro e w' ⟨rfl, hb⟩)
    go_ret
    exact ⟨rfl, HB1.out.trans (hb.mono HB1.out.size)⟩
  | false =>
  have hlen : n ≤ 8192 := by simpa using hlg.symm
  clear hlg
  have HM := Lib.hid (manyS_any s0 s1 ga gl gk da dl dk w1)
  go_wp2_with fail
  refine HM.out.mono ?_
  rintro e w2 ⟨rfl, hb2⟩
  have HB2 := Lib.hid (HB1.out.trans (hb2.mono HB1.out.size))
  have HX2 := Lib.hid (HX1.out.keep hb2)
  have HC2 := Lib.hid (HC1.out.keep hb2)
  clear hb2 HM HX1 HC1 HB1 c0 c1 c2 d0 d1 d2 d3
  by_cases hmany : 2048 < gl ∨ 2048 < dl
  · rw [decide_eq_true hmany]
    have HB1 := HB2
    clear hmany
    go_wp2_with (go_at_call 13; refine (works_any _).mono ?_; rintro e w' ⟨rfl, hb⟩)
    go_ret
    exact ⟨rfl, HB1.out.trans (hb.mono HB1.out.size)⟩
  rw [decide_eq_false hmany]
  have hgn : gl ≤ 2048 := by omega
  have hdn : dl ≤ 2048 := by omega
  clear hmany
  have hbV : Below w2.heap.size w2 (w2.alloc (.cells #[.int .u32 s0, .int .u32 s1, .slice none 0 0, .slice none 0 0] 52)) := (Below.refl _ _).alloc (Nat.le_refl _) _
  have hAV : Arr (w2.alloc (.cells #[.int .u32 s0, .int .u32 s1, .slice none 0 0, .slice none 0 0] 52)) w2.heap.size 52 [.int .u32 s0, .int .u32 s1, .slice none 0 0, .slice none 0 0] := arr_new _ _ _
  have hbV' := HB2.out.trans (hbV.mono HB2.out.size)
  obtain ⟨ra, rc, w3, hrun, H3⟩ := appendPairs (T := 79) (ST := 49) Try.infoGap Try.underlying49 (w := (w2.alloc (.cells #[.int .u32 s0, .int .u32 s1, .slice none 0 0, .slice none 0 0] 52))) (base := (w2.alloc (.cells #[.int .u32 s0, .int .u32 s1, .slice none 0 0, .slice none 0 0] 52)).heap.size) (Nat.le_refl _) ga gl gk gs0 (HFS.out.1.below hbV' (Nat.le_refl _)) (by omega)
  have HRUN := Lib.hid hrun
  have hA3 := grown_none_arr H3.out.2 hAV
  have hb3 := hbV.trans ((grown_none_below H3.out.2).mono hbV.size)
  have hsV : (w2.alloc (.cells #[.int .u32 s0, .int .u32 s1, .slice none 0 0, .slice none 0 0] 52)).heap.size = w2.heap.size + 1 := by simp
  obtain ⟨w4, hw4⟩ : ∃ w4, w3.setCell ⟨w2.heap.size, 2, none⟩ (.slice ra gl rc) = w4 := ⟨_, rfl⟩
  have hA4 : Arr w4 w2.heap.size 52 [.int .u32 s0, .int .u32 s1, .slice ra gl rc, .slice none 0 0] := by rw [← hw4]; exact hA3.set 2 _
  have hb4 : Below w2.heap.size w2 w4 := by rw [← hw4]; exact hb3.setCell (p := ⟨w2.heap.size, 2, none⟩) (Nat.le_refl _) _
  have hR4 : RowP 79 (w2.heap.size + 1) w4 ra gl rc gs0 := by rw [← hw4, ← hsV]; exact RowP.setAt H3.out.1 (by rw [hsV]; omega) 2 _
  have hbw4 := HB2.out.trans (hb4.mono HB2.out.size)
  obtain ⟨ta, tc, w5, hrun5, H5⟩ := append32 (w := w4) (base := w4.heap.size) (Nat.le_refl _) da dl dk ds0 (HFS.out.2.below hbw4 (Nat.le_refl _)) (by omega)
  have HRUN5 := Lib.hid hrun5
  have hA5 := grown_none_arr H5.out.2 hA4
  have hb45 := grown_none_below H5.out.2
  have hb5' := hb4.trans (hb45.mono hb4.size)
  have hR5 : RowP 79 (w2.heap.size + 1) w5 ra gl rc gs0 := owns_keep hR4 hb45
  have hls : w2.heap.size < w4.heap.size := hA4.lt
  obtain ⟨w6', hw6'⟩ : ∃ w6', w5.setCell ⟨w2.heap.size, 3, none⟩ (.slice ta dl tc) = w6' := ⟨_, rfl⟩
  have hA6' : Arr w6' w2.heap.size 52 [.int .u32 s0, .int .u32 s1, .slice ra gl rc, .slice ta dl tc] := by rw [← hw6']; exact hA5.set 3 _
  have hb6' : Below w2.heap.size w2 w6' := by rw [← hw6']; exact hb5'.setCell (p := ⟨w2.heap.size, 3, none⟩) (Nat.le_refl _) _
  have hR6 : RowP 79 (w2.heap.size + 1) w6' ra gl rc gs0 := by rw [← hw6']; exact RowP.setAt hR5 (by omega) 3 _
  have hT6 : Row32 w4.heap.size w6' ta dl tc ds0 := by rw [← hw6']; exact Row32.setAt H5.out.1 hls 3 _
  have hP6' := RowP.prs hR6 HFS.out.1.2.1
  have hN6' := Row32.nums hT6 HFS.out.2.2.2.1 (by omega)
  have fr := hA3.free 2
  have fr5 := hA5.free 3
  have y0 := hA3.cell (i := 0) rfl
  have y1 := hA3.cell (i := 1) rfl
  have y2 := hA3.cell (i := 2) rfl
  have y3 := hA3.cell (i := 3) rfl
  have v0 := hA4.cell (i := 0) rfl
  have v1 := hA4.cell (i := 1) rfl
  have v2 := hA4.cell (i := 2) rfl
  have v3 := hA4.cell (i := 3) rfl
  have u0 := hA5.cell (i := 0) rfl
  have u1 := hA5.cell (i := 1) rfl
  have u2 := hA5.cell (i := 2) rfl
  have u3 := hA5.cell (i := 3) rfl
  have e0 := hA6'.cell (i := 0) rfl
  have e1 := hA6'.cell (i := 1) rfl
  have e2 := hA6'.cell (i := 2) rfl
  have e3 := hA6'.cell (i := 3) rfl
  have dv0 := (HX2.out.below hbV (by have := HX2.out.lt; omega)).cell (i := 0) rfl
  have dv1 := (HX2.out.below hbV (by have := HX2.out.lt; omega)).cell (i := 1) rfl
  have dv2 := (HX2.out.below hbV (by have := HX2.out.lt; omega)).cell (i := 2) rfl
  have dv3 := (HX2.out.below hbV (by have := HX2.out.lt; omega)).cell (i := 3) rfl
  have dw0 := (HX2.out.below hb4 (by have := HX2.out.lt; omega)).cell (i := 0) rfl
  have dw1 := (HX2.out.below hb4 (by have := HX2.out.lt; omega)).cell (i := 1) rfl
  have dw2 := (HX2.out.below hb4 (by have := HX2.out.lt; omega)).cell (i := 2) rfl
  have dw3 := (HX2.out.below hb4 (by have := HX2.out.lt; omega)).cell (i := 3) rfl
  have d0 := HX2.out.cell (i := 0) rfl
  have d1 := HX2.out.cell (i := 1) rfl
  have d2 := HX2.out.cell (i := 2) rfl
  have d3 := HX2.out.cell (i := 3) rfl
  have HPU := Lib.hid (pputSack s0 s1 ra gl rc gs0 ta dl tc ds0 w6' hP6' hN6' (by omega) (by omega) ls0 hs0' ls1 hs1')
  have H4 := Lib.hid (And.intro hA6' (And.intro hb6' (And.intro hP6' hN6')))
  clear hbV hAV hbV' hrun hA3 hb3 hsV hA4 hb4 hR4 H3 hbw4 hrun5 hA5 hb45 hb5' hR5 hls hA6' hb6' hR6 hT6 hP6' hN6' H5
  go_wp2_with (at_builtin; first | refine wpList_append_run rfl _ _ _ rfl _ _ _ _ rfl rfl HRUN.out ?_ | refine wpList_append_run rfl _ _ _ rfl _ _ _ _ rfl rfl HRUN5.out ?_)
  refine HPU.out.mono ?_
  rintro e w7' ⟨pa, pc, rfl, hb5, hr5⟩
  obtain ⟨LP, hLP⟩ : ∃ LP, LP = (sackB s0 s1 gs0 ds0).length := ⟨_, rfl⟩
  rw [← hLP] at hr5 ⊢
  obtain ⟨w6, hw6⟩ : ∃ w6, w7'.alloc (.cells #[.int .u8 3, .int .u8 0, .slice pa LP pc] 28) = w6 := ⟨_, rfl⟩
  have hb6 : Below w7'.heap.size w7' w6 := by rw [← hw6]; exact chunkBelow _ _ _ _
  have hA6 : Arr w6 w7'.heap.size 28 [.int .u8 3, .int .u8 0, .slice pa LP pc] := by rw [← hw6]; exact chunkBox _ _ _ _
  have hb46 := hb5.trans (hb6.mono hb5.size)
  have hb26 := H4.out.2.1.trans (hb46.mono H4.out.2.1.size)
  have HLP := Lib.hid (show LP ≤ 100000 by rw [hLP, sackB_len, HFS.out.1.1, HFS.out.2.1]; omega)
  have HB6 := Lib.hid (HB2.out.trans (hb26.mono HB2.out.size))
  have HP6 := Lib.hid (And.intro hA6 (hr5.reads.below hb6))
  have HI6 := Lib.hid (And.intro (H4.out.1.keep hb46) (And.intro (H4.out.2.2.1.below hb46 (Nat.le_refl _)) (H4.out.2.2.2.below hb46 (Nat.le_refl _))))
  have HX6 := Lib.hid (HX2.out.keep hb26)
  have HC6 := Lib.hid (HC2.out.keep hb26)
  have HR6 := Lib.hid (HR0.out.1.below HB6.out)
  clear hb5 hr5 hb6 hA6 hb46 hb26 hLP HPU H4 HX2 HC2 HB2 fr fr5 y0 y1 y2 y3 v0 v1 v2 v3 u0 u1 u2 u3 e0 e1 e2 e3 d0 d1 d2 d3 dv0 dv1 dv2 dv3 dw0 dw1 dw2 dw3 hw4 hw6'
  generalize hgi : w2.heap.size = gi at *
  clear hgi
  have c0 := HC6.out.cell (i := 0) rfl
  have c1 := HC6.out.cell (i := 1) rfl
  have c2 := HC6.out.cell (i := 2) rfl
  go_wp2_with fail
  generalize hgp : w7'.heap.size = gp at *
  clear c0 c1 c2 hgp
  refine wp_region_any (by kernel_rfl) ?_
  refine Vals.wpAny_goodLast (LFq w w6 k f p n c zs) (fun W => Below w6.heap.size w6 W) [some 39, some 40, some 41, some 42, some 43, some 44, some 45, some 46, some 7, none] 9 86 _ _ rfl (by kernel_rfl) (by kernel_rfl) (by kernel_rfl) (by decide) rfl ?step ?fin (Below.refl _ _).drew
  case step =>
    intro i o d ho hd hiN a W hJ hdf hdep hfr K hK
    match i, ho, hd with
    | 0, ho, hd =>
      have ho' := ho
      simp only [List.getElem?_toArray, List.getElem?_cons_zero, Option.some.injEq] at ho hd
      subst ho hd
      have r3 : a.eval (.tmp 3) = .pointer (some ⟨w.heap.size + 1, 0, none⟩) := hfr 3 (by decide)
      rw [Vals.eval_tmp] at r3
      refine Vals.wpOp_run ho' rfl ?_
      clear hdep hfr ho' hdf
      go_simp
      exact hK _ _ (fun _ _ h => h) hJ (fun _ => rfl)
    | 1, ho, hd =>
      have ho' := ho
      simp only [List.getElem?_toArray, List.getElem?_cons_zero, List.getElem?_cons_succ, Option.some.injEq] at ho hd
      subst ho hd
      have r39 : a.eval (.tmp 39) = .pointer (some ⟨w.heap.size + 1, 0, none⟩) := hdep ⟨0, .data⟩ (by simp) rfl 39 rfl
      rw [Vals.eval_tmp] at r39
      have c0 := (HC6.out.keep hJ).cell (i := 0) rfl
      refine Vals.wpOp_run ho' rfl ?_
      clear hdep hfr ho' hdf
      go_simp
      exact hK _ _ (fun _ _ h => h) hJ (fun _ => rfl)
    | 2, ho, hd =>
      have ho' := ho
      simp only [List.getElem?_toArray, List.getElem?_cons_zero, List.getElem?_cons_succ, Option.some.injEq] at ho hd
      subst ho hd
      have r3 : a.eval (.tmp 3) = .pointer (some ⟨w.heap.size + 1, 0, none⟩) := hfr 3 (by decide)
      rw [Vals.eval_tmp] at r3
      refine Vals.wpOp_run ho' rfl ?_
      clear hdep hfr ho' hdf
      go_simp
      exact hK _ _ (fun _ _ h => h) hJ (fun _ => rfl)
    | 3, ho, hd =>
      have ho' := ho
      simp only [List.getElem?_toArray, List.getElem?_cons_zero, List.getElem?_cons_succ, Option.some.injEq] at ho hd
      subst ho hd
      have r41 : a.eval (.tmp 41) = .pointer (some ⟨w.heap.size + 1, 1, none⟩) := hdep ⟨2, .data⟩ (by simp) rfl 41 rfl
      rw [Vals.eval_tmp] at r41
      have c0 := (HC6.out.keep hJ).cell (i := 1) rfl
      refine Vals.wpOp_run ho' rfl ?_
      clear hdep hfr ho' hdf
      go_simp
      exact hK _ _ (fun _ _ h => h) hJ (fun _ => rfl)
    | 4, ho, hd =>
      have ho' := ho
      simp only [List.getElem?_toArray, List.getElem?_cons_zero, List.getElem?_cons_succ, Option.some.injEq] at ho hd
      subst ho hd
      have r3 : a.eval (.tmp 3) = .pointer (some ⟨w.heap.size + 1, 0, none⟩) := hfr 3 (by decide)
      rw [Vals.eval_tmp] at r3
      refine Vals.wpOp_run ho' rfl ?_
      clear hdep hfr ho' hdf
      go_simp
      exact hK _ _ (fun _ _ h => h) hJ (fun _ => rfl)
    | 5, ho, hd =>
      have ho' := ho
      simp only [List.getElem?_toArray, List.getElem?_cons_zero, List.getElem?_cons_succ, Option.some.injEq] at ho hd
      subst ho hd
      have r43 : a.eval (.tmp 43) = .pointer (some ⟨w.heap.size + 1, 2, none⟩) := hdep ⟨4, .data⟩ (by simp) rfl 43 rfl
      rw [Vals.eval_tmp] at r43
      have c0 := (HC6.out.keep hJ).cell (i := 2) rfl
      refine Vals.wpOp_run ho' rfl ?_
      clear hdep hfr ho' hdf
      go_simp
      exact hK _ _ (fun _ _ h => h) hJ (fun _ => rfl)
    | 6, ho, hd =>
      have ho' := ho
      simp only [List.getElem?_toArray, List.getElem?_cons_zero, List.getElem?_cons_succ, Option.some.injEq] at ho hd
      subst ho hd
      have r44 : a.eval (.tmp 44) = .slice p n c := hdep ⟨5, .data⟩ (by simp) rfl 44 rfl
      rw [Vals.eval_tmp] at r44
      refine Vals.wpOp_run ho' rfl ?_
      clear hdep hfr ho' hdf
      go_simp
      refine (roomy_any p n c zs W (HR6.out.below hJ) (by omega)).mono ?_
      rintro e w' ⟨rfl, hb3, hk3⟩
      exact hK _ _ (LFq_mono hb3) (hJ.trans (hb3.mono hJ.size)) (fun _ => ⟨_, rfl, hJ.size, hk3⟩)
    | 7, ho, hd =>
      have ho' := ho
      simp only [List.getElem?_toArray, List.getElem?_cons_zero, List.getElem?_cons_succ, Option.some.injEq] at ho hd
      subst ho hd
      have r40 : a.eval (.tmp 40) = .int .u8 k := hdep ⟨1, .data⟩ (by simp) rfl 40 rfl
      rw [Vals.eval_tmp] at r40
      have r42 : a.eval (.tmp 42) = .int .u8 f := hdep ⟨3, .data⟩ (by simp) rfl 42 rfl
      rw [Vals.eval_tmp] at r42
      have g45 : ∃ gr_45, a.eval (.tmp 45) = .slice (some ⟨gr_45, 0, none⟩) n (n + 16) ∧ w6.heap.size ≤ gr_45 ∧ Blk W gr_45 (zs ++ List.replicate 16 90) := hdep ⟨6, .data⟩ (by simp) rfl 45 rfl
      rw [Vals.eval_tmp] at g45
      obtain ⟨gr_45, r45, h45_0, h45_1⟩ := g45
      refine Vals.wpOp_run ho' rfl ?_
      clear hdep hfr ho' hdf
      go_simp
      exact hK _ _ (fun _ _ h => h) hJ (fun _ => ⟨_, rfl, h45_0, h45_1⟩)
    | 8, ho, hd =>
      have ho' := ho
      simp only [List.getElem?_toArray, List.getElem?_cons_zero, List.getElem?_cons_succ, Option.some.injEq] at ho hd
      subst ho hd
      refine Vals.wpOp_run ho' rfl ?_
      clear hdep hfr ho' hdf
      go_simp
      have hb3 : Below W.heap.size W (W.alloc (.cells #[.int .u8 0, .int .u8 0, .slice none 0 0] 28)) := (Below.refl _ _).alloc (Nat.le_refl _) _
      exact hK _ _ (LFq_mono hb3) (hJ.trans (hb3.mono hJ.size)) (fun _ => ⟨_, rfl, hJ.size, arr_new _ _ _⟩)
    | i + 9, ho, hd => omega
  case fin =>
    intro W fq hJ hG
    have q0 : fq 39 = .pointer (some ⟨w.heap.size + 1, 0, none⟩) := hG 0 39 rfl
    have q1 : fq 40 = .int .u8 k := hG 1 40 rfl
    have q2 : fq 41 = .pointer (some ⟨w.heap.size + 1, 1, none⟩) := hG 2 41 rfl
    have q3 : fq 42 = .int .u8 f := hG 3 42 rfl
    have q4 : fq 43 = .pointer (some ⟨w.heap.size + 1, 2, none⟩) := hG 4 43 rfl
    have q5 : fq 44 = .slice p n c := hG 5 44 rfl
    obtain ⟨gr_45, q6, hq45_0, hq45_1⟩ : ∃ gr_45, fq 45 = .slice (some ⟨gr_45, 0, none⟩) n (n + 16) ∧ w6.heap.size ≤ gr_45 ∧ Blk W gr_45 (zs ++ List.replicate 16 90) := hG 6 45 rfl
    obtain ⟨gr_46, q7, hq46_0, hq46_1⟩ : ∃ gr_46, fq 46 = .agg #[.int .u8 k, .int .u8 f, .slice (some ⟨gr_46, 0, none⟩) n (n + 16)] ∧ w6.heap.size ≤ gr_46 ∧ Blk W gr_46 (zs ++ List.replicate 16 90) := hG 7 46 rfl
    obtain ⟨gn_7, q8, hq7_0, hq7_1⟩ : ∃ gn_7, fq 7 = .pointer (some ⟨gn_7, 0, none⟩) ∧ w6.heap.size ≤ gn_7 ∧ Arr W gn_7 28 [.int .u8 0, .int .u8 0, .slice none 0 0] := hG 8 7 rfl
    clear hG
    refine Vals.wpOp_run rfl rfl ?_
    simp only [Vals.puts, Vals.pairs, List.filterMap_cons, List.filterMap_nil, id, List.map_cons, List.map_nil, List.foldl_cons, List.foldl_nil, q0, q1, q2, q3, q4, q5, q6, q7, q8]
    clear q0 q1 q2 q3 q4 q5 q6 q7 q8
    go_frame
    obtain ⟨W4, hW4⟩ : ∃ x, (((W.setCell ⟨gn_7, 0, none⟩ (.int .u8 k)).setCell ⟨gn_7, 1, none⟩ (.int .u8 f)).setCell ⟨gn_7, 2, none⟩ (.slice (some ⟨gr_46, 0, none⟩) n (n + 16))) = x := ⟨_, rfl⟩
    have hA4 : Arr _ gn_7 28 [.int .u8 k, .int .u8 f, .slice (some ⟨gr_46, 0, none⟩) n (n + 16)] := (((hq7_1.set 0 (.int .u8 k)).set 1 (.int .u8 f)).set 2 (.slice (some ⟨gr_46, 0, none⟩) n (n + 16)))
    have hB4 := ((((hJ : Below w6.heap.size w6 W).setCell (p := ⟨gn_7, 0, none⟩) hq7_0 (.int .u8 k)).setCell (p := ⟨gn_7, 1, none⟩) hq7_0 (.int .u8 f)).setCell (p := ⟨gn_7, 2, none⟩) hq7_0 (.slice (some ⟨gr_46, 0, none⟩) n (n + 16)))
    rw [hW4] at hA4 hB4
    have hne := hq46_1.ne_arr hq7_1
    have hk4 : Blk _ gr_46 (zs ++ List.replicate 16 90) := (Below.heap_setCell _ ⟨gn_7, 2, none⟩ (.slice (some ⟨gr_46, 0, none⟩) n (n + 16)) _ (by simpa using hne)).trans ((Below.heap_setCell _ ⟨gn_7, 1, none⟩ (.int .u8 f) _ (by simpa using hne)).trans ((Below.heap_setCell W ⟨gn_7, 0, none⟩ (.int .u8 k) _ (by simpa using hne)).trans hq46_1))
    rw [hW4] at hk4
    have fr0 := hq7_1.free 0
    have fr1 := hq7_1.free 1
    have fr2 := hq7_1.free 2
    have y0 := hq7_1.cell (i := 0) rfl
    have y1 := hq7_1.cell (i := 1) rfl
    have y2 := hq7_1.cell (i := 2) rfl
    have HG7 := Lib.hid (And.intro hA4 (And.intro hB4 hk4))
    clear hA4 hB4 hk4 hne hJ hq7_0 hq7_1 hq45_0 hq45_1 hq46_0 hq46_1
    go_simp
    clear fr0 fr1 fr2 y0 y1 y2 hW4
    generalize gn_7 = gq at *
    generalize gr_46 = g6 at *
    generalize W4 = w7 at *
    have hin7 : Reads w7 (some ⟨g6, 0, none⟩) n zs := roomy_in HG7.out.2.2 HR0.out.1.1
    have HB7 := Lib.hid (HB6.out.trans (HG7.out.2.1.mono HB6.out.size))
    have HGE := Lib.hid (pgetSack k f (some ⟨g6, 0, none⟩) n (n + 16) zs w7 hin7 HR0.out.2.1 (by omega) (by omega))
    clear hin7
    have c0 := HG7.out.1.cell (i := 0) rfl
    have c1 := HG7.out.1.cell (i := 1) rfl
    have c2 := HG7.out.1.cell (i := 2) rfl
    go_wp2_with fail
    refine HGE.out.mono ?_
    rintro e w8 hgot
    obtain ⟨xa, xc, xb, xd, rfl, hb8, hxp, hxn⟩ := hgot.any
    obtain ⟨X, hX⟩ : ∃ X, X = (if okSack k f zs = true then natAt zs 0 4 else 0) := ⟨_, rfl⟩
    obtain ⟨Y, hY⟩ : ∃ Y, Y = (if okSack k f zs = true then natAt zs 4 4 else 0) := ⟨_, rfl⟩
    obtain ⟨er, her⟩ : ∃ er : Int, er = (if okSack k f zs = true then 0 else 7) := ⟨_, rfl⟩
    obtain ⟨qs, hqs⟩ : ∃ qs, qs = (if okSack k f zs = true then sackG zs else []) := ⟨_, rfl⟩
    obtain ⟨es, hes⟩ : ∃ es, es = (if okSack k f zs = true then sackD zs else []) := ⟨_, rfl⟩
    rw [← hqs] at hxp
    rw [← hes] at hxn
    rw [← hX, ← hY, ← her, ← hqs, ← hes]
    obtain ⟨m, hm⟩ : ∃ m, m = qs.length := ⟨_, rfl⟩
    obtain ⟨md, hmd⟩ : ∃ md, md = es.length := ⟨_, rfl⟩
    rw [← hm] at hxp ⊢
    rw [← hmd] at hxn ⊢
    have HMM := Lib.hid (show m ≤ 10000 ∧ md ≤ 10000 by have h1 := sackG_len zs; have h2 := sackD_len zs; have := HR0.out.1.1; rw [hm, hqs, hmd, hes]; cases okSack k f zs <;> simp <;> omega)
    have HEQ := Lib.hid (And.intro hX (And.intro her (And.intro hqs (And.intro hm (And.intro hY (And.intro hes hmd))))))
    have hbx : Below w8.heap.size w8 (w8.alloc (.cells #[.int .u32 X, .int .u32 Y, .slice xa m xc, .slice xb md xd] 52)) := (Below.refl _ _).alloc (Nat.le_refl _) _
    have hAx : Arr (w8.alloc (.cells #[.int .u32 X, .int .u32 Y, .slice xa m xc, .slice xb md xd] 52)) w8.heap.size 52 [.int .u32 X, .int .u32 Y, .slice xa m xc, .slice xb md xd] := arr_new _ _ _
    have hb79 := hb8.trans (hbx.mono hb8.size)
    have HB9 := Lib.hid (HB7.out.trans (hb79.mono HB7.out.size))
    have hC9 := HC6.out.keep (HG7.out.2.1.trans (hb79.mono HG7.out.2.1.size))
    clear c0 c1 c2
    have c0 := hC9.cell (i := 0) rfl
    have c1 := hC9.cell (i := 1) rfl
    have c2 := hC9.cell (i := 2) rfl
    have HGR := Lib.hid (rgetSack k f p n c zs (w8.alloc (.cells #[.int .u32 X, .int .u32 Y, .slice xa m xc, .slice xb md xd] 52)) (HR0.out.1.below HB9.out) HR0.out.2.1 HR0.out.2.2 (by omega))
    have HXP0 := Lib.hid (And.intro hAx (And.intro (hxp.below hbx (Nat.le_refl _)) (hxn.below hbx (Nat.le_refl _))))
    have HG9 := Lib.hid (And.intro (HG7.out.1.keep hb79) (And.intro (HG7.out.2.1.trans (hb79.mono HG7.out.2.1.size)) (HG7.out.2.2.below hb79)))
    clear hgot hxp hxn hX hY her hqs hes hm hmd hbx hAx hb79 hC9 hb8 HGE HG7 HB7
    go_wp2_with fail
    refine HGR.out.mono ?_
    rintro e w10 hgot
    obtain ⟨ya, yc, yb, yd, rfl, hb10, hyp, hyn⟩ := hgot
    rw [← HEQ.out.2.2.1] at hyp
    rw [← HEQ.out.2.2.2.2.2.1] at hyn
    rw [← HEQ.out.1, ← HEQ.out.2.2.2.2.1, ← HEQ.out.2.1, ← HEQ.out.2.2.1, ← HEQ.out.2.2.2.2.2.1, ← HEQ.out.2.2.2.1, ← HEQ.out.2.2.2.2.2.2]
    rw [← HEQ.out.2.2.2.1] at hyp
    rw [← HEQ.out.2.2.2.2.2.2] at hyn
    have hby : Below w10.heap.size w10 (w10.alloc (.cells #[.int .u32 X, .int .u32 Y, .slice ya m yc, .slice yb md yd] 52)) := (Below.refl _ _).alloc (Nat.le_refl _) _
    have hAy : Arr (w10.alloc (.cells #[.int .u32 X, .int .u32 Y, .slice ya m yc, .slice yb md yd] 52)) w10.heap.size 52 [.int .u32 X, .int .u32 Y, .slice ya m yc, .slice yb md yd] := arr_new _ _ _
    have hb11 := hb10.trans (hby.mono hb10.size)
    have h6 := HG9.out.2.1.trans (hb11.mono HG9.out.2.1.size)
    have HBI := Lib.hid (HB9.out.trans (hb11.mono HB9.out.size))
    have HF9 := Lib.hid (HX6.out.keep h6)
    have HC9 := Lib.hid (HC6.out.keep h6)
    have HI9 := Lib.hid (HI6.out.1.keep h6)
    have HIN := Lib.hid (And.intro (HI6.out.2.1.below h6 (Nat.le_refl _)) (HI6.out.2.2.below h6 (Nat.le_refl _)))
    have HP9 := Lib.hid (HP6.out.1.keep h6)
    have HPB := Lib.hid (HP6.out.2.below h6)
    have HQ9 := Lib.hid (HG9.out.1.keep hb11)
    have HQ := Lib.hid (HG9.out.2.2.below hb11)
    have HX9 := Lib.hid (HXP0.out.1.keep hb11)
    have HXP := Lib.hid (And.intro (HXP0.out.2.1.below hb11 (Nat.le_refl _)) (HXP0.out.2.2.below hb11 (Nat.le_refl _)))
    have HY9 := Lib.hid hAy
    have HYP := Lib.hid (And.intro (hyp.below hby (Nat.le_refl _)) (hyn.below hby (Nat.le_refl _)))
    clear hyp hyn hby hAy hb11 h6 hb10 HGR HXP0 HG9 HB9 HP6 HI6 HX6 HC6 HR6 HB6 c0 c1 c2
    go_wp2_with fail
    generalize (w10.alloc (.cells #[.int .u32 X, .int .u32 Y, .slice ya m yc, .slice yb md yd] 52)) = wr at HBI HF9 HC9 HI9 HIN HP9 HPB HQ9 HQ HX9 HXP HY9 HYP ⊢
    generalize w10.heap.size = gy at *
    generalize w8.heap.size = gx at *
    refine wp_region_any (by kernel_rfl) ?_
    refine Vals.wpAny_goodW (LFr w wr s0 s1 X Y er k f ga gl gk gs0 da dl dk ds0 p n c ra rc ta tc pa LP pc xa m xc xb md xd ya yc yb yd gi gp gq g6 gx gy) (fun _ => (fun W => Below wr.heap.size wr W)) [some 57, some 58, some 59, some 60, some 61, some 62, some 63, some 64, some 65, some 66, some 67, some 68, some 69, some 70, some 71, some 72, some 73, some 74, some 75, some 76, some 77, some 78, some 79, some 80, some 81, some 82, some 83, some 84, some 85, some 4] 86 _ _ rfl (by kernel_rfl) (by kernel_rfl) (by decide) ?step9 ?fin9 (Below.refl _ _).drew
    case step9 =>
      intro i o d ho hd listed a W hls hun hcl hJ hdf hdep hfr K hK
      match i, ho, hd with
      | 0, ho, hd =>
        have ho' := ho
        simp only [List.getElem?_toArray, List.getElem?_cons_zero, Option.some.injEq] at ho hd
        subst ho hd
        have r6 : a.eval (.tmp 6) = .pointer (some ⟨gp, 0, none⟩) := hfr 6 (by decide)
        rw [Vals.eval_tmp] at r6
        have c0 := (HP9.out.keep hJ).cell (i := 0) rfl
        have c1 := (HP9.out.keep hJ).cell (i := 1) rfl
        have c2 := (HP9.out.keep hJ).cell (i := 2) rfl
        refine Vals.wpOp_run ho' rfl ?_
        clear hdep hfr ho' hdf hcl
        go_simp
        exact hK _ _ (fun _ _ h => h) hJ (fun _ => rfl)
      | 1, ho, hd =>
        have ho' := ho
        simp only [List.getElem?_toArray, List.getElem?_cons_zero, List.getElem?_cons_succ, Option.some.injEq] at ho hd
        subst ho hd
        have r2 : a.eval (.tmp 2) = .pointer (some ⟨w.heap.size, 0, none⟩) := hfr 2 (by decide)
        rw [Vals.eval_tmp] at r2
        have c0 := (HF9.out.keep hJ).cell (i := 0) rfl
        have c1 := (HF9.out.keep hJ).cell (i := 1) rfl
        have c2 := (HF9.out.keep hJ).cell (i := 2) rfl
        have c3 := (HF9.out.keep hJ).cell (i := 3) rfl
        refine Vals.wpOp_run ho' rfl ?_
        clear hdep hfr ho' hdf hcl
        go_simp
        exact hK _ _ (fun _ _ h => h) hJ (fun _ => rfl)
      | 2, ho, hd =>
        have ho' := ho
        simp only [List.getElem?_toArray, List.getElem?_cons_zero, List.getElem?_cons_succ, Option.some.injEq] at ho hd
        subst ho hd
        have r58 : a.eval (.tmp 58) = .agg #[.int .u32 s0, .int .u32 s1, .slice ga gl gk, .slice da dl dk] := (hdep ⟨1, .data⟩ (by simp) rfl).2 58 rfl
        rw [Vals.eval_tmp] at r58
        refine Vals.wpOp_run ho' rfl ?_
        clear hdep hfr ho' hdf hcl
        go_simp
        refine (rputSack s0 s1 ga gl gk gs0 da dl dk ds0 W (HFS.out.1.below (HBI.out.trans (hJ.mono HBI.out.size)) (Nat.le_refl _)) (HFS.out.2.below (HBI.out.trans (hJ.mono HBI.out.size)) (Nat.le_refl _)) (by omega) (by omega) ls0 hs0' ls1 hs1').mono ?_
        rintro e w' ⟨b1, e1, rfl, hb3, hr3⟩
        exact hK _ _ (LFr_mono hb3) (hJ.trans (hb3.mono hJ.size)) (fun _ => ⟨_, _, rfl, hr3.reads⟩)
      | 3, ho, hd =>
        have ho' := ho
        simp only [List.getElem?_toArray, List.getElem?_cons_zero, List.getElem?_cons_succ, Option.some.injEq] at ho hd
        subst ho hd
        have r57 : a.eval (.tmp 57) = .agg #[.int .u8 3, .int .u8 0, .slice pa LP pc] := (hdep ⟨0, .data⟩ (by simp) rfl).2 57 rfl
        rw [Vals.eval_tmp] at r57
        have g59 : ∃ b1_59 e1_59, a.eval (.tmp 59) = .agg #[.int .u8 3, .int .u8 0, .slice b1_59 (sackB s0 s1 gs0 ds0).length e1_59] ∧ Reads W b1_59 (sackB s0 s1 gs0 ds0).length (sackB s0 s1 gs0 ds0) := (hdep ⟨2, .data⟩ (by simp) rfl).2 59 rfl
        rw [Vals.eval_tmp] at g59
        obtain ⟨b1_59, e1_59, r59, h59_0⟩ := g59
        refine Vals.wpOp_run ho' rfl ?_
        clear hdep hfr ho' hdf hcl
        go_simp
        refine (rsame_yes 3 0 pa b1_59 LP _ pc e1_59 (sackB s0 s1 gs0 ds0) W (HPB.out.below hJ) h59_0 (sackB_byt _ _ _ _) (by have := HLP.out; omega)).mono ?_
        rintro e w' ⟨rfl, hb3⟩
        exact hK _ _ (LFr_mono hb3) (hJ.trans (hb3.mono hJ.size)) (fun _ => rfl)
      | 4, ho, hd =>
        have ho' := ho
        simp only [List.getElem?_toArray, List.getElem?_cons_zero, List.getElem?_cons_succ, Option.some.injEq] at ho hd
        subst ho hd
        have r60 : a.eval (.tmp 60) = .bool true := (hdep ⟨3, .data⟩ (by simp) rfl).2 60 rfl
        rw [Vals.eval_tmp] at r60
        refine Vals.wpOp_run ho' rfl ?_
        clear hdep hfr ho' hdf hcl
        go_simp
        exact hK _ _ (fun _ _ h => h) hJ (fun _ => rfl)
      | 5, ho, hd =>
        have ho' := ho
        simp only [List.getElem?_toArray, List.getElem?_cons_zero, List.getElem?_cons_succ, Option.some.injEq] at ho hd
        subst ho hd
        have hgd : a.eval (.tmp 61) = .bool true := (hdep ⟨4, .guard⟩ (by simp) rfl).2 61 rfl
        have r5 : a.eval (.tmp 5) = .pointer (some ⟨gi, 0, none⟩) := hfr 5 (by decide)
        rw [Vals.eval_tmp] at r5
        have c0 := (HI9.out.keep hJ).cell (i := 0) rfl
        have c1 := (HI9.out.keep hJ).cell (i := 1) rfl
        have c2 := (HI9.out.keep hJ).cell (i := 2) rfl
        have c3 := (HI9.out.keep hJ).cell (i := 3) rfl
        refine Vals.wpOp_run ho' (by unfold Region.wanted; simp only []; rw [Vals.yielded_of (d := 61) rfl hgd]; rfl) ?_
        clear hdep hfr ho' hdf hgd hcl
        go_simp
        exact hK _ _ (fun _ _ h => h) hJ (fun _ => rfl)
      | 6, ho, hd =>
        have ho' := ho
        simp only [List.getElem?_toArray, List.getElem?_cons_zero, List.getElem?_cons_succ, Option.some.injEq] at ho hd
        subst ho hd
        have hgd : a.eval (.tmp 61) = .bool true := (hdep ⟨4, .guard⟩ (by simp) rfl).2 61 rfl
        have r2 : a.eval (.tmp 2) = .pointer (some ⟨w.heap.size, 0, none⟩) := hfr 2 (by decide)
        rw [Vals.eval_tmp] at r2
        have c0 := (HF9.out.keep hJ).cell (i := 0) rfl
        have c1 := (HF9.out.keep hJ).cell (i := 1) rfl
        have c2 := (HF9.out.keep hJ).cell (i := 2) rfl
        have c3 := (HF9.out.keep hJ).cell (i := 3) rfl
        refine Vals.wpOp_run ho' (by unfold Region.wanted; simp only []; rw [Vals.yielded_of (d := 61) rfl hgd]; rfl) ?_
        clear hdep hfr ho' hdf hgd hcl
        go_simp
        exact hK _ _ (fun _ _ h => h) hJ (fun _ => rfl)
      | 7, ho, hd =>
        have ho' := ho
        simp only [List.getElem?_toArray, List.getElem?_cons_zero, List.getElem?_cons_succ, Option.some.injEq] at ho hd
        subst ho hd
        have hgd : a.eval (.tmp 61) = .bool true := (hdep ⟨4, .guard⟩ (by simp) rfl).2 61 rfl
        have r62 : a.eval (.tmp 62) = .agg #[.int .u32 s0, .int .u32 s1, .slice ra gl rc, .slice ta dl tc] := (hdep ⟨5, .data⟩ (by simp) rfl).2 62 rfl
        rw [Vals.eval_tmp] at r62
        have r63 : a.eval (.tmp 63) = .agg #[.int .u32 s0, .int .u32 s1, .slice ga gl gk, .slice da dl dk] := (hdep ⟨6, .data⟩ (by simp) rfl).2 63 rfl
        rw [Vals.eval_tmp] at r63
        refine Vals.wpOp_run ho' (by unfold Region.wanted; simp only []; rw [Vals.yielded_of (d := 61) rfl hgd]; rfl) ?_
        clear hdep hfr ho' hdf hgd hcl
        go_simp
        refine (sameSack_yes s0 s1 ra ga ta da gl rc gk dl tc dk gs0 ds0 W (HIN.out.1.below hJ (Nat.le_refl _)) (HFS.out.1.below (HBI.out.trans (hJ.mono HBI.out.size)) (Nat.le_refl _)) (HIN.out.2.below hJ (Nat.le_refl _)) (HFS.out.2.below (HBI.out.trans (hJ.mono HBI.out.size)) (Nat.le_refl _)) (by omega) (by omega)).mono ?_
        rintro e w' ⟨rfl, hb3⟩
        exact hK _ _ (LFr_mono hb3) (hJ.trans (hb3.mono hJ.size)) (fun _ => rfl)
      | 8, ho, hd =>
        have ho' := ho
        simp only [List.getElem?_toArray, List.getElem?_cons_zero, List.getElem?_cons_succ, Option.some.injEq] at ho hd
        subst ho hd
        have r61 : a.eval (.tmp 61) = .bool true := (hdep ⟨4, .data⟩ (by simp) rfl).2 61 rfl
        rw [Vals.eval_tmp] at r61
        have r64 : a.eval (.tmp 64) = .bool true := (hdep ⟨7, .data⟩ (by simp) rfl).2 64 rfl
        rw [Vals.eval_tmp] at r64
        refine Vals.wpOp_run ho' rfl ?_
        clear hdep hfr ho' hdf hcl
        go_simp
        exact hK _ _ (fun _ _ h => h) hJ (fun _ => rfl)
      | 9, ho, hd =>
        have ho' := ho
        simp only [List.getElem?_toArray, List.getElem?_cons_zero, List.getElem?_cons_succ, Option.some.injEq] at ho hd
        subst ho hd
        have r65 : a.eval (.tmp 65) = .bool true := (hdep ⟨8, .data⟩ (by simp) rfl).2 65 rfl
        rw [Vals.eval_tmp] at r65
        refine Vals.wpOp_run ho' rfl ?_
        clear hdep hfr ho' hdf hcl
        go_simp
        exact hK _ _ (fun _ _ h => h) hJ (fun _ => rfl)
      | 10, ho, hd =>
        have ho' := ho
        simp only [List.getElem?_toArray, List.getElem?_cons_zero, List.getElem?_cons_succ, Option.some.injEq] at ho hd
        subst ho hd
        have hgd : a.eval (.tmp 66) = .bool true := (hdep ⟨9, .guard⟩ (by simp) rfl).2 66 rfl
        have r7 : a.eval (.tmp 7) = .pointer (some ⟨gq, 0, none⟩) := hfr 7 (by decide)
        rw [Vals.eval_tmp] at r7
        refine Vals.wpOp_run ho' (by unfold Region.wanted; simp only []; rw [Vals.yielded_of (d := 66) rfl hgd]; rfl) ?_
        clear hdep hfr ho' hdf hgd hcl
        go_simp
        exact hK _ _ (fun _ _ h => h) hJ (fun _ => rfl)
      | 11, ho, hd =>
        have ho' := ho
        simp only [List.getElem?_toArray, List.getElem?_cons_zero, List.getElem?_cons_succ, Option.some.injEq] at ho hd
        subst ho hd
        have hgd : a.eval (.tmp 66) = .bool true := (hdep ⟨9, .guard⟩ (by simp) rfl).2 66 rfl
        have r67 : a.eval (.tmp 67) = .pointer (some ⟨gq, 2, none⟩) := (hdep ⟨10, .data⟩ (by simp) rfl).2 67 rfl
        rw [Vals.eval_tmp] at r67
        have c0 := (HQ9.out.keep hJ).cell (i := 2) rfl
        refine Vals.wpOp_run ho' (by unfold Region.wanted; simp only []; rw [Vals.yielded_of (d := 66) rfl hgd]; rfl) ?_
        clear hdep hfr ho' hdf hgd hcl
        go_simp
        exact hK _ _ (fun _ _ h => h) hJ (fun _ => rfl)
      | 12, ho, hd =>
        have ho' := ho
        simp only [List.getElem?_toArray, List.getElem?_cons_zero, List.getElem?_cons_succ, Option.some.injEq] at ho hd
        subst ho hd
        have hgd : a.eval (.tmp 66) = .bool true := (hdep ⟨9, .guard⟩ (by simp) rfl).2 66 rfl
        have r3 : a.eval (.tmp 3) = .pointer (some ⟨w.heap.size + 1, 0, none⟩) := hfr 3 (by decide)
        rw [Vals.eval_tmp] at r3
        refine Vals.wpOp_run ho' (by unfold Region.wanted; simp only []; rw [Vals.yielded_of (d := 66) rfl hgd]; rfl) ?_
        clear hdep hfr ho' hdf hgd hcl
        go_simp
        exact hK _ _ (fun _ _ h => h) hJ (fun _ => rfl)
      | 13, ho, hd =>
        have ho' := ho
        simp only [List.getElem?_toArray, List.getElem?_cons_zero, List.getElem?_cons_succ, Option.some.injEq] at ho hd
        subst ho hd
        have hgd : a.eval (.tmp 66) = .bool true := (hdep ⟨9, .guard⟩ (by simp) rfl).2 66 rfl
        have r69 : a.eval (.tmp 69) = .pointer (some ⟨w.heap.size + 1, 2, none⟩) := (hdep ⟨12, .data⟩ (by simp) rfl).2 69 rfl
        rw [Vals.eval_tmp] at r69
        have c0 := (HC9.out.keep hJ).cell (i := 2) rfl
        refine Vals.wpOp_run ho' (by unfold Region.wanted; simp only []; rw [Vals.yielded_of (d := 66) rfl hgd]; rfl) ?_
        clear hdep hfr ho' hdf hgd hcl
        go_simp
        exact hK _ _ (fun _ _ h => h) hJ (fun _ => rfl)
      | 14, ho, hd =>
        have ho' := ho
        simp only [List.getElem?_toArray, List.getElem?_cons_zero, List.getElem?_cons_succ, Option.some.injEq] at ho hd
        subst ho hd
        have hgd : a.eval (.tmp 66) = .bool true := (hdep ⟨9, .guard⟩ (by simp) rfl).2 66 rfl
        have r68 : a.eval (.tmp 68) = .slice (some ⟨g6, 0, none⟩) n (n + 16) := (hdep ⟨11, .data⟩ (by simp) rfl).2 68 rfl
        rw [Vals.eval_tmp] at r68
        have r70 : a.eval (.tmp 70) = .slice p n c := (hdep ⟨13, .data⟩ (by simp) rfl).2 70 rfl
        rw [Vals.eval_tmp] at r70
        refine Vals.wpOp_run ho' (by unfold Region.wanted; simp only []; rw [Vals.yielded_of (d := 66) rfl hgd]; rfl) ?_
        clear hdep hfr ho' hdf hgd hcl
        go_simp
        refine (kept_yes p g6 n c zs W (HQ.out.below hJ) (HR0.out.1.below (HBI.out.trans (hJ.mono HBI.out.size))) HR0.out.2.1 (by omega)).mono ?_
        rintro e w' ⟨rfl, hb3⟩
        exact hK _ _ (LFr_mono hb3) (hJ.trans (hb3.mono hJ.size)) (fun _ => rfl)
      | 15, ho, hd =>
        have ho' := ho
        simp only [List.getElem?_toArray, List.getElem?_cons_zero, List.getElem?_cons_succ, Option.some.injEq] at ho hd
        subst ho hd
        have r66 : a.eval (.tmp 66) = .bool true := (hdep ⟨9, .data⟩ (by simp) rfl).2 66 rfl
        rw [Vals.eval_tmp] at r66
        have r71 : a.eval (.tmp 71) = .bool true := (hdep ⟨14, .data⟩ (by simp) rfl).2 71 rfl
        rw [Vals.eval_tmp] at r71
        refine Vals.wpOp_run ho' rfl ?_
        clear hdep hfr ho' hdf hcl
        go_simp
        exact hK _ _ (fun _ _ h => h) hJ (fun _ => rfl)
      | 16, ho, hd =>
        have ho' := ho
        simp only [List.getElem?_toArray, List.getElem?_cons_zero, List.getElem?_cons_succ, Option.some.injEq] at ho hd
        subst ho hd
        have r72 : a.eval (.tmp 72) = .bool true := (hdep ⟨15, .data⟩ (by simp) rfl).2 72 rfl
        rw [Vals.eval_tmp] at r72
        refine Vals.wpOp_run ho' rfl ?_
        clear hdep hfr ho' hdf hcl
        go_simp
        exact hK _ _ (fun _ _ h => h) hJ (fun _ => rfl)
      | 17, ho, hd =>
        have ho' := ho
        simp only [List.getElem?_toArray, List.getElem?_cons_zero, List.getElem?_cons_succ, Option.some.injEq] at ho hd
        subst ho hd
        have hgd : a.eval (.tmp 73) = .bool true := (hdep ⟨16, .guard⟩ (by simp) rfl).2 73 rfl
        have r9 : a.eval (.tmp 9) = .int .i64 er := hfr 9 (by decide)
        rw [Vals.eval_tmp] at r9
        refine Vals.wpOp_run ho' (by unfold Region.wanted; simp only []; rw [Vals.yielded_of (d := 73) rfl hgd]; rfl) ?_
        clear hdep hfr ho' hdf hgd hcl
        go_simp
        exact hK _ _ (fun _ _ h => h) hJ (fun _ => rfl)
      | 18, ho, hd =>
        have ho' := ho
        simp only [List.getElem?_toArray, List.getElem?_cons_zero, List.getElem?_cons_succ, Option.some.injEq] at ho hd
        subst ho hd
        have hgd : a.eval (.tmp 73) = .bool true := (hdep ⟨16, .guard⟩ (by simp) rfl).2 73 rfl
        have r11 : a.eval (.tmp 11) = .int .i64 er := hfr 11 (by decide)
        rw [Vals.eval_tmp] at r11
        refine Vals.wpOp_run ho' (by unfold Region.wanted; simp only []; rw [Vals.yielded_of (d := 73) rfl hgd]; rfl) ?_
        clear hdep hfr ho' hdf hgd hcl
        go_simp
        exact hK _ _ (fun _ _ h => h) hJ (fun _ => rfl)
      | 19, ho, hd =>
        have ho' := ho
        simp only [List.getElem?_toArray, List.getElem?_cons_zero, List.getElem?_cons_succ, Option.some.injEq] at ho hd
        subst ho hd
        have hgd : a.eval (.tmp 73) = .bool true := (hdep ⟨16, .guard⟩ (by simp) rfl).2 73 rfl
        have r74 : a.eval (.tmp 74) = .int .i64 er := (hdep ⟨17, .data⟩ (by simp) rfl).2 74 rfl
        rw [Vals.eval_tmp] at r74
        have r75 : a.eval (.tmp 75) = .int .i64 er := (hdep ⟨18, .data⟩ (by simp) rfl).2 75 rfl
        rw [Vals.eval_tmp] at r75
        refine Vals.wpOp_run ho' (by unfold Region.wanted; simp only []; rw [Vals.yielded_of (d := 73) rfl hgd]; rfl) ?_
        clear hdep hfr ho' hdf hgd hcl
        go_simp
        exact hK _ _ (fun _ _ h => h) hJ (fun _ => rfl)
      | 20, ho, hd =>
        have ho' := ho
        simp only [List.getElem?_toArray, List.getElem?_cons_zero, List.getElem?_cons_succ, Option.some.injEq] at ho hd
        subst ho hd
        have r73 : a.eval (.tmp 73) = .bool true := (hdep ⟨16, .data⟩ (by simp) rfl).2 73 rfl
        rw [Vals.eval_tmp] at r73
        have r76 : a.eval (.tmp 76) = .bool true := (hdep ⟨19, .data⟩ (by simp) rfl).2 76 rfl
        rw [Vals.eval_tmp] at r76
        refine Vals.wpOp_run ho' rfl ?_
        clear hdep hfr ho' hdf hcl
        go_simp
        exact hK _ _ (fun _ _ h => h) hJ (fun _ => rfl)
      | 21, ho, hd =>
        have ho' := ho
        simp only [List.getElem?_toArray, List.getElem?_cons_zero, List.getElem?_cons_succ, Option.some.injEq] at ho hd
        subst ho hd
        have r77 : a.eval (.tmp 77) = .bool true := (hdep ⟨20, .data⟩ (by simp) rfl).2 77 rfl
        rw [Vals.eval_tmp] at r77
        refine Vals.wpOp_run ho' rfl ?_
        clear hdep hfr ho' hdf hcl
        go_simp
        exact hK _ _ (fun _ _ h => h) hJ (fun _ => rfl)
      | 22, ho, hd =>
        have ho' := ho
        simp only [List.getElem?_toArray, List.getElem?_cons_zero, List.getElem?_cons_succ, Option.some.injEq] at ho hd
        subst ho hd
        have hgd : a.eval (.tmp 78) = .bool true := (hdep ⟨21, .guard⟩ (by simp) rfl).2 78 rfl
        have r8 : a.eval (.tmp 8) = .pointer (some ⟨gx, 0, none⟩) := hfr 8 (by decide)
        rw [Vals.eval_tmp] at r8
        have c0 := (HX9.out.keep hJ).cell (i := 0) rfl
        have c1 := (HX9.out.keep hJ).cell (i := 1) rfl
        have c2 := (HX9.out.keep hJ).cell (i := 2) rfl
        have c3 := (HX9.out.keep hJ).cell (i := 3) rfl
        refine Vals.wpOp_run ho' (by unfold Region.wanted; simp only []; rw [Vals.yielded_of (d := 78) rfl hgd]; rfl) ?_
        clear hdep hfr ho' hdf hgd hcl
        go_simp
        exact hK _ _ (fun _ _ h => h) hJ (fun _ => rfl)
      | 23, ho, hd =>
        have ho' := ho
        simp only [List.getElem?_toArray, List.getElem?_cons_zero, List.getElem?_cons_succ, Option.some.injEq] at ho hd
        subst ho hd
        have hgd : a.eval (.tmp 78) = .bool true := (hdep ⟨21, .guard⟩ (by simp) rfl).2 78 rfl
        have r10 : a.eval (.tmp 10) = .pointer (some ⟨gy, 0, none⟩) := hfr 10 (by decide)
        rw [Vals.eval_tmp] at r10
        have c0 := (HY9.out.keep hJ).cell (i := 0) rfl
        have c1 := (HY9.out.keep hJ).cell (i := 1) rfl
        have c2 := (HY9.out.keep hJ).cell (i := 2) rfl
        have c3 := (HY9.out.keep hJ).cell (i := 3) rfl
        refine Vals.wpOp_run ho' (by unfold Region.wanted; simp only []; rw [Vals.yielded_of (d := 78) rfl hgd]; rfl) ?_
        clear hdep hfr ho' hdf hgd hcl
        go_simp
        exact hK _ _ (fun _ _ h => h) hJ (fun _ => rfl)
      | 24, ho, hd =>
        have ho' := ho
        simp only [List.getElem?_toArray, List.getElem?_cons_zero, List.getElem?_cons_succ, Option.some.injEq] at ho hd
        subst ho hd
        have hgd : a.eval (.tmp 78) = .bool true := (hdep ⟨21, .guard⟩ (by simp) rfl).2 78 rfl
        have r79 : a.eval (.tmp 79) = .agg #[.int .u32 X, .int .u32 Y, .slice xa m xc, .slice xb md xd] := (hdep ⟨22, .data⟩ (by simp) rfl).2 79 rfl
        rw [Vals.eval_tmp] at r79
        have r80 : a.eval (.tmp 80) = .agg #[.int .u32 X, .int .u32 Y, .slice ya m yc, .slice yb md yd] := (hdep ⟨23, .data⟩ (by simp) rfl).2 80 rfl
        rw [Vals.eval_tmp] at r80
        refine Vals.wpOp_run ho' (by unfold Region.wanted; simp only []; rw [Vals.yielded_of (d := 78) rfl hgd]; rfl) ?_
        clear hdep hfr ho' hdf hgd hcl
        go_simp
        refine (sameSack_yes X Y xa ya xb yb m xc yc md xd yd qs es W (HXP.out.1.below hJ (Nat.le_refl _)) (HYP.out.1.below hJ (Nat.le_refl _)) (HXP.out.2.below hJ (Nat.le_refl _)) (HYP.out.2.below hJ (Nat.le_refl _)) (by have := HMM.out; omega) (by have := HMM.out; omega)).mono ?_
        rintro e w' ⟨rfl, hb3⟩
        exact hK _ _ (LFr_mono hb3) (hJ.trans (hb3.mono hJ.size)) (fun _ => rfl)
      | 25, ho, hd =>
        have ho' := ho
        simp only [List.getElem?_toArray, List.getElem?_cons_zero, List.getElem?_cons_succ, Option.some.injEq] at ho hd
        subst ho hd
        have r78 : a.eval (.tmp 78) = .bool true := (hdep ⟨21, .data⟩ (by simp) rfl).2 78 rfl
        rw [Vals.eval_tmp] at r78
        have r81 : a.eval (.tmp 81) = .bool true := (hdep ⟨24, .data⟩ (by simp) rfl).2 81 rfl
        rw [Vals.eval_tmp] at r81
        refine Vals.wpOp_run ho' rfl ?_
        clear hdep hfr ho' hdf hcl
        go_simp
        exact hK _ _ (fun _ _ h => h) hJ (fun _ => rfl)
      | 26, ho, hd =>
        have ho' := ho
        simp only [List.getElem?_toArray, List.getElem?_cons_zero, List.getElem?_cons_succ, Option.some.injEq] at ho hd
        subst ho hd
        have r82 : a.eval (.tmp 82) = .bool true := (hdep ⟨25, .data⟩ (by simp) rfl).2 82 rfl
        rw [Vals.eval_tmp] at r82
        refine Vals.wpOp_run ho' rfl ?_
        clear hdep hfr ho' hdf hcl
        go_simp
        exact hK _ _ (fun _ _ h => h) hJ (fun _ => rfl)
      | 27, ho, hd =>
        have ho' := ho
        simp only [List.getElem?_toArray, List.getElem?_cons_zero, List.getElem?_cons_succ, Option.some.injEq] at ho hd
        subst ho hd
        have hgd : a.eval (.tmp 83) = .bool true := (hdep ⟨26, .guard⟩ (by simp) rfl).2 83 rfl
        refine Vals.wpOp_run ho' (by unfold Region.wanted; simp only []; rw [Vals.yielded_of (d := 83) rfl hgd]; rfl) ?_
        clear hdep hfr ho' hdf hgd hcl
        go_simp
        refine (works_any W).mono ?_
        rintro e w' ⟨rfl, hb3⟩
        exact hK _ _ (LFr_mono hb3) (hJ.trans (hb3.mono hJ.size)) (fun _ => rfl)
      | 28, ho, hd =>
        have ho' := ho
        simp only [List.getElem?_toArray, List.getElem?_cons_zero, List.getElem?_cons_succ, Option.some.injEq] at ho hd
        subst ho hd
        have r83 : a.eval (.tmp 83) = .bool true := (hdep ⟨26, .data⟩ (by simp) rfl).2 83 rfl
        rw [Vals.eval_tmp] at r83
        have r84 : a.eval (.tmp 84) = .bool true := (hdep ⟨27, .data⟩ (by simp) rfl).2 84 rfl
        rw [Vals.eval_tmp] at r84
        refine Vals.wpOp_run ho' rfl ?_
        clear hdep hfr ho' hdf hcl
        go_simp
        exact hK _ _ (fun _ _ h => h) hJ (fun _ => rfl)
      | 29, ho, hd =>
        have ho' := ho
        simp only [List.getElem?_toArray, List.getElem?_cons_zero, List.getElem?_cons_succ, Option.some.injEq] at ho hd
        subst ho hd
        have r85 : a.eval (.tmp 85) = .bool true := (hdep ⟨28, .data⟩ (by simp) rfl).2 85 rfl
        rw [Vals.eval_tmp] at r85
        refine Vals.wpOp_run ho' rfl ?_
        clear hdep hfr ho' hdf hcl
        go_simp
        exact hK _ _ (fun _ _ h => h) hJ (fun _ => rfl)
      | i + 30, ho, hd => simp at ho
    case fin9 =>
      intro listed W fq2 hall hJ hG
      have q0 : fq2 57 = .agg #[.int .u8 3, .int .u8 0, .slice pa LP pc] := hG 0 57 rfl
      have q1 : fq2 58 = .agg #[.int .u32 s0, .int .u32 s1, .slice ga gl gk, .slice da dl dk] := hG 1 58 rfl
      obtain ⟨b1_59, e1_59, q2, hq59_0⟩ : ∃ b1_59 e1_59, fq2 59 = .agg #[.int .u8 3, .int .u8 0, .slice b1_59 (sackB s0 s1 gs0 ds0).length e1_59] ∧ Reads W b1_59 (sackB s0 s1 gs0 ds0).length (sackB s0 s1 gs0 ds0) := hG 2 59 rfl
      have q3 : fq2 60 = .bool true := hG 3 60 rfl
      have q4 : fq2 61 = .bool true := hG 4 61 rfl
      have q5 : fq2 62 = .agg #[.int .u32 s0, .int .u32 s1, .slice ra gl rc, .slice ta dl tc] := hG 5 62 rfl
      have q6 : fq2 63 = .agg #[.int .u32 s0, .int .u32 s1, .slice ga gl gk, .slice da dl dk] := hG 6 63 rfl
      have q7 : fq2 64 = .bool true := hG 7 64 rfl
      have q8 : fq2 65 = .bool true := hG 8 65 rfl
      have q9 : fq2 66 = .bool true := hG 9 66 rfl
      have q10 : fq2 67 = .pointer (some ⟨gq, 2, none⟩) := hG 10 67 rfl
      have q11 : fq2 68 = .slice (some ⟨g6, 0, none⟩) n (n + 16) := hG 11 68 rfl
      have q12 : fq2 69 = .pointer (some ⟨w.heap.size + 1, 2, none⟩) := hG 12 69 rfl
      have q13 : fq2 70 = .slice p n c := hG 13 70 rfl
      have q14 : fq2 71 = .bool true := hG 14 71 rfl
      have q15 : fq2 72 = .bool true := hG 15 72 rfl
      have q16 : fq2 73 = .bool true := hG 16 73 rfl
      have q17 : fq2 74 = .int .i64 er := hG 17 74 rfl
      have q18 : fq2 75 = .int .i64 er := hG 18 75 rfl
      have q19 : fq2 76 = .bool true := hG 19 76 rfl
      have q20 : fq2 77 = .bool true := hG 20 77 rfl
      have q21 : fq2 78 = .bool true := hG 21 78 rfl
      have q22 : fq2 79 = .agg #[.int .u32 X, .int .u32 Y, .slice xa m xc, .slice xb md xd] := hG 22 79 rfl
      have q23 : fq2 80 = .agg #[.int .u32 X, .int .u32 Y, .slice ya m yc, .slice yb md yd] := hG 23 80 rfl
      have q24 : fq2 81 = .bool true := hG 24 81 rfl
      have q25 : fq2 82 = .bool true := hG 25 82 rfl
      have q26 : fq2 83 = .bool true := hG 26 83 rfl
      have q27 : fq2 84 = .bool true := hG 27 84 rfl
      have q28 : fq2 85 = .bool true := hG 28 85 rfl
      have q29 : fq2 4 = .bool true := hG 29 4 rfl
      clear hG hall
      simp only [Vals.puts, Vals.pairs, List.filterMap_cons, List.filterMap_nil, id, List.map_cons, List.map_nil, List.foldl_cons, List.foldl_nil, q0, q1, q2, q3, q4, q5, q6, q7, q8, q9, q10, q11, q12, q13, q14, q15, q16, q17, q18, q19, q20, q21, q22, q23, q24, q25, q26, q27, q28, q29]
      clear q0 q1 q2 q3 q4 q5 q6 q7 q8 q9 q10 q11 q12 q13 q14 q15 q16 q17 q18 q19 q20 q21 q22 q23 q24 q25 q26 q27 q28 q29
      go_frame
      have HJ := Lib.hid (HBI.out.trans (hJ.mono HBI.out.size))
      clear hJ HF9 HC9 HI9 HIN HP9 HPB HQ9 HQ HX9 HXP HY9 HYP
      go_wp2
      go_ret
      exact ⟨rfl, HJ.out⟩

end Go.Proofs.Ytlihcckgnnnekaa
