/-
  The walk of BodiesData. Written by gentwo.py.
-/
import Derived.Test.YtlihcckgnnnekaaBdTwo
namespace Go.Proofs.Ytlihcckgnnnekaa
open Go.RowKit
set_option linter.unusedVariables false
set_option linter.unusedSimpArgs false
set_option linter.unnecessarySimpa false


/-- What the operations of the drawn region leave behind. -/
def LDataq (w w6 : World) (k f : Int) (p : Option Addr) (n c : Nat) (zs : List Int) (i : Nat) (v : Value) (W : World) : Prop := match i with | 0 => v = .pointer (some ⟨w.heap.size + 1, 0, none⟩) | 1 => v = .int .u8 k | 2 => v = .pointer (some ⟨w.heap.size + 1, 1, none⟩) | 3 => v = .int .u8 f | 4 => v = .pointer (some ⟨w.heap.size + 1, 2, none⟩) | 5 => v = .slice p n c | 6 => ∃ gr, v = .slice (some ⟨gr, 0, none⟩) n (n + 16) ∧ w6.heap.size ≤ gr ∧ Blk W gr (zs ++ List.replicate 16 90) | 7 => ∃ gr_34, v = .agg #[.int .u8 k, .int .u8 f, .slice (some ⟨gr_34, 0, none⟩) n (n + 16)] ∧ w6.heap.size ≤ gr_34 ∧ Blk W gr_34 (zs ++ List.replicate 16 90) | 8 => ∃ gn, v = .pointer (some ⟨gn, 0, none⟩) ∧ w6.heap.size ≤ gn ∧ Arr W gn 28 [.int .u8 0, .int .u8 0, .slice none 0 0] | _ => True
theorem LDataq_mono {w w6 : World} {k f : Int} {p : Option Addr} {n c : Nat} {zs : List Int} {W W' : World} (hb : Below W.heap.size W W') (jo : Nat) (xo : Value) (h : LDataq w w6 k f p n c zs jo xo W) : LDataq w w6 k f p n c zs jo xo W' := by
  unfold LDataq at h ⊢
  split at h <;> try exact h
  · obtain ⟨gr, e0, h0_0, h0_1⟩ := h
    exact ⟨gr, e0, h0_0, h0_1.below hb⟩
  · obtain ⟨gr_34, e0, h0_0, h0_1⟩ := h
    exact ⟨gr_34, e0, h0_0, h0_1.below hb⟩
  · obtain ⟨gn, e0, h0_0, h0_1⟩ := h
    exact ⟨gn, e0, h0_0, h0_1.keep hb⟩

/-- What the operations of the drawn region leave behind. -/
def LDatar (w wr : World) (d0 d1 d2 : Int) (d3 d4 d5 : Bool) (da : Option Addr) (dn dk : Nat) (dz : List Int) (X0 X1 X2 : Int) (X3 X4 X5 : Bool) (er k f : Int) (p : Option Addr) (n c : Nat) (pa : Option Addr) (LP pc : Nat) (xa : Option Addr) (m xc : Nat) (ya : Option Addr) (yc : Nat) (gi gr gp gq g6 gx gy : Nat) (i : Nat) (v : Value) (W : World) : Prop := match i with | 0 => v = .agg #[.int .u8 0, .int .u8 (dflags d3 d4 d5), .slice pa LP pc] | 1 => v = .agg #[.int .u32 d0, .int .u16 d1, .int .u16 d2, .bool d3, .bool d4, .bool d5, .slice da dn dk] | 2 => ∃ b1 e1, v = .agg #[.int .u8 0, .int .u8 (dflags d3 d4 d5), .slice b1 (dataB d0 d1 d2 dz).length e1] ∧ Reads W b1 (dataB d0 d1 d2 dz).length (dataB d0 d1 d2 dz) | 3 => v = .bool true | 4 => v = .bool false | 5 => v = .bool false | 6 => v = .pointer (some ⟨gi, 6, none⟩) | 7 => v = .slice (some ⟨gr, 0, none⟩) dn (dn + 16) | 8 => v = .pointer (some ⟨w.heap.size, 6, none⟩) | 9 => v = .slice da dn dk | 10 => v = .bool true | 11 => v = .bool false | 12 => v = .bool false | 13 => v = .bool false | 14 => v = .pointer (some ⟨gq, 2, none⟩) | 15 => v = .slice (some ⟨g6, 0, none⟩) n (n + 16) | 16 => v = .pointer (some ⟨w.heap.size + 1, 2, none⟩) | 17 => v = .slice p n c | 18 => v = .bool true | 19 => v = .bool false | 20 => v = .bool false | _ => True
theorem LDatar_mono {w wr : World} {d0 d1 d2 : Int} {d3 d4 d5 : Bool} {da : Option Addr} {dn dk : Nat} {dz : List Int} {X0 X1 X2 : Int} {X3 X4 X5 : Bool} {er k f : Int} {p : Option Addr} {n c : Nat} {pa : Option Addr} {LP pc : Nat} {xa : Option Addr} {m xc : Nat} {ya : Option Addr} {yc : Nat} {gi gr gp gq g6 gx gy : Nat} {W W' : World} (hb : Below W.heap.size W W') (jo : Nat) (xo : Value) (h : LDatar w wr d0 d1 d2 d3 d4 d5 da dn dk dz X0 X1 X2 X3 X4 X5 er k f p n c pa LP pc xa m xc ya yc gi gr gp gq g6 gx gy jo xo W) : LDatar w wr d0 d1 d2 d3 d4 d5 da dn dk dz X0 X1 X2 X3 X4 X5 er k f p n c pa LP pc xa m xc ya yc gi gr gp gq g6 gx gy jo xo W' := by
  unfold LDatar at h ⊢
  split at h <;> try exact h
  · obtain ⟨b1, e1, e0, h0_0⟩ := h
    exact ⟨b1, e1, e0, h0_0.below hb⟩

set_option maxRecDepth 100000 in
set_option maxHeartbeats 3200000 in
theorem bodiesData_walk (d0 d1 d2 : Int) (d3 d4 d5 : Bool) (da : Option Addr) (dn dk : Nat) (dz0 : List Int) (k f : Int) (p : Option Addr) (n c : Nat) (z : List Int) (w : World) (vd0 : (Lit.int .u32 d0).wf = true) (vd1 : (Lit.int .u16 d1).wf = true) (vd2 : (Lit.int .u16 d2).wf = true) (vd : IsRow .u8 w da dn dk dz0) (wk : (Lit.int .u8 k).wf = true) (wf : (Lit.int .u8 f).wf = true) (w0 : IsRow .u8 w p n c z) :
    Calls Try.prog 3 #[.agg #[.int .u32 d0, .int .u16 d1, .int .u16 d2, .bool d3, .bool d4, .bool d5, .slice da dn dk], .agg #[.int .u8 k, .int .u8 f, .slice p n c]] w fun e w' => e = .returned (.bool true) ∧ Below w.heap.size w w' := by
  obtain ⟨hr, hbyt, hcap, hmax⟩ := w0.reads
  obtain ⟨hrd, hzd, hcd, _⟩ := vd.reads
  obtain ⟨ld0, hd0⟩ : 0 ≤ d0 ∧ d0 < 4294967296 := by have := wf_u32_in vd0; omega
  obtain ⟨ld1, hd1⟩ : 0 ≤ d1 ∧ d1 < 65536 := by have := wf_u16_in vd1; omega
  obtain ⟨ld2, hd2⟩ : 0 ≤ d2 ∧ d2 < 65536 := by have := wf_u16_in vd2; omega
  generalize dz0.take dn = dz at hrd hzd
  clear w0 vd wk wf vd0 vd1 vd2
  generalize z.take n = zs at hr hbyt
  unfold maxLen at hmax
  obtain ⟨wa, hwa⟩ : ∃ wa, w.alloc (.cells #[.int .u32 d0, .int .u16 d1, .int .u16 d2, .bool d3, .bool d4, .bool d5, .slice da dn dk] 26) = wa := ⟨_, rfl⟩
  have hba : Below w.heap.size w wa := by rw [← hwa]; exact (Below.refl _ _).alloc (Nat.le_refl _) _
  have hsa : wa.heap.size = w.heap.size + 1 := by rw [← hwa]; simp
  have hXa : Arr wa w.heap.size 26 [.int .u32 d0, .int .u16 d1, .int .u16 d2, .bool d3, .bool d4, .bool d5, .slice da dn dk] := by rw [← hwa]; exact arr_new _ _ _
  obtain ⟨wb, hwb⟩ : ∃ wb, wa.alloc (.cells #[.int .u8 k, .int .u8 f, .slice p n c] 28) = wb := ⟨_, rfl⟩
  have hbb : Below wa.heap.size wa wb := by rw [← hwb]; exact chunkBelow _ _ _ _
  have hsb : wb.heap.size = w.heap.size + 2 := by rw [← hwb]; simp; omega
  have hCb : Arr wb (w.heap.size + 1) 28 [.int .u8 k, .int .u8 f, .slice p n c] := by rw [← hwb, ← hsa]; exact chunkBox _ _ _ _
  have hbw := hba.trans (hbb.mono hba.size)
  have hXb := hXa.keep hbb
  have c0 := hCb.cell (i := 0) rfl
  have c1 := hCb.cell (i := 1) rfl
  have c2 := hCb.cell (i := 2) rfl
  have e0 := hXb.cell (i := 0) rfl
  have e1 := hXb.cell (i := 1) rfl
  have e2 := hXb.cell (i := 2) rfl
  have e3 := hXb.cell (i := 3) rfl
  have e4 := hXb.cell (i := 4) rfl
  have e5 := hXb.cell (i := 5) rfl
  have e6 := hXb.cell (i := 6) rfl
  obtain ⟨lg, hlg⟩ : ∃ lg, lg = decide (8192 < n) := ⟨_, rfl⟩
  have HLA := Lib.hid (large_any k f p n c wb lg hlg)
  have HR0 := Lib.hid (And.intro hr (And.intro hbyt hcap))
  have HD := Lib.hid (And.intro hrd (And.intro hzd hcd))
  have H0 := Lib.hid (And.intro hbw (And.intro hXb hCb))
  clear hr hbyt hba hXa hbb hCb hbw hXb hrd hzd hcd
  go_enter Try.func3, Try.ntmps3
  go_wp2_with fail
  refine HLA.out.mono ?_
  rintro e w1 ⟨rfl, hb1⟩
  have HB1 := Lib.hid (H0.out.1.trans (hb1.mono H0.out.1.size))
  have HX1 := Lib.hid (H0.out.2.1.keep hb1)
  have HC1 := Lib.hid (H0.out.2.2.keep hb1)
  clear hb1 H0 HLA c0 c1 c2 e0 e1 e2 e3 e4 e5 e6
  have e0 := HX1.out.cell (i := 0) rfl
  have e1 := HX1.out.cell (i := 1) rfl
  have e2 := HX1.out.cell (i := 2) rfl
  have e3 := HX1.out.cell (i := 3) rfl
  have e4 := HX1.out.cell (i := 4) rfl
  have e5 := HX1.out.cell (i := 5) rfl
  have e6 := HX1.out.cell (i := 6) rfl
  have c0 := HC1.out.cell (i := 0) rfl
  have c1 := HC1.out.cell (i := 1) rfl
  have c2 := HC1.out.cell (i := 2) rfl
  cases lg with
  | true =>
    clear hlg
    go_wp2_with (go_at_call 13; refine (works_any _).mono ?_; rintro e w' ⟨rfl, hb⟩)
    go_ret
    exact ⟨rfl, HB1.out.trans (hb.mono HB1.out.size)⟩
  | false =>
  have hlen : n ≤ 8192 := by simpa using hlg.symm
  clear hlg
  by_cases hdl : 8192 < dn
  · have g8 : (8192 : Int) < (dn : Int) := by omega
    go_wp2_with (go_at_call 13; refine (works_any _).mono ?_; rintro e w' ⟨rfl, hb⟩)
    go_ret
    exact ⟨rfl, HB1.out.trans (hb.mono HB1.out.size)⟩
  have g8 : ¬ (8192 : Int) < (dn : Int) := by omega
  have hdn : dn ≤ 8192 := by omega
  clear hdl
  have hbV : Below w1.heap.size w1 (w1.alloc (.cells #[.int .u32 d0, .int .u16 d1, .int .u16 d2, .bool d3, .bool d4, .bool d5, .slice da dn dk] 26)) := (Below.refl _ _).alloc (Nat.le_refl _) _
  have hAV : Arr (w1.alloc (.cells #[.int .u32 d0, .int .u16 d1, .int .u16 d2, .bool d3, .bool d4, .bool d5, .slice da dn dk] 26)) w1.heap.size 26 [.int .u32 d0, .int .u16 d1, .int .u16 d2, .bool d3, .bool d4, .bool d5, .slice da dn dk] := arr_new _ _ _
  have hbV' := HB1.out.trans (hbV.mono HB1.out.size)
  have hsV : (w1.alloc (.cells #[.int .u32 d0, .int .u16 d1, .int .u16 d2, .bool d3, .bool d4, .bool d5, .slice da dn dk] 26)).heap.size = w1.heap.size + 1 := by simp
  obtain ⟨gr, hgr⟩ : ∃ gr, gr = w1.heap.size + 1 := ⟨_, rfl⟩
  have hro := roomy_any da dn dk dz (w1.alloc (.cells #[.int .u32 d0, .int .u16 d1, .int .u16 d2, .bool d3, .bool d4, .bool d5, .slice da dn dk] 26)) (HD.out.1.below hbV') (by omega)
  rw [hsV, ← hgr] at hro
  have HRO := Lib.hid hro
  have dv0 := (HX1.out.keep hbV).cell (i := 0) rfl
  have dv1 := (HX1.out.keep hbV).cell (i := 1) rfl
  have dv2 := (HX1.out.keep hbV).cell (i := 2) rfl
  have dv3 := (HX1.out.keep hbV).cell (i := 3) rfl
  have dv4 := (HX1.out.keep hbV).cell (i := 4) rfl
  have dv5 := (HX1.out.keep hbV).cell (i := 5) rfl
  have dv6 := (HX1.out.keep hbV).cell (i := 6) rfl
  have HV := Lib.hid (And.intro hbV (And.intro hAV (And.intro hgr hsV)))
  clear hbV hAV hbV' hro hgr hsV
  go_wp2_with fail
  refine HRO.out.mono ?_
  rintro e w3 ⟨rfl, hb3, hk3⟩
  clear HRO c0 c1 c2 e0 e1 e2 e3 e4 e5 e6 dv0 dv1 dv2 dv3 dv4 dv5 dv6
  have hgr := HV.out.2.2.1
  have hb3' : Below w1.heap.size w1 w3 := HV.out.1.trans (hb3.mono (by rw [hgr]; omega))
  have hA3 : Arr w3 w1.heap.size 26 [.int .u32 d0, .int .u16 d1, .int .u16 d2, .bool d3, .bool d4, .bool d5, .slice da dn dk] := (HV.out.2.1).keep (by rw [HV.out.2.2.2, ← hgr]; exact hb3)
  obtain ⟨w4, hw4⟩ : ∃ w4, w3.setCell ⟨w1.heap.size, 6, none⟩ (.slice (some ⟨gr, 0, none⟩) dn (dn + 16)) = w4 := ⟨_, rfl⟩
  have hA4 : Arr w4 w1.heap.size 26 [.int .u32 d0, .int .u16 d1, .int .u16 d2, .bool d3, .bool d4, .bool d5, .slice (some ⟨gr, 0, none⟩) dn (dn + 16)] := by rw [← hw4]; exact hA3.set 6 _
  have hb4 : Below w1.heap.size w1 w4 := by rw [← hw4]; exact hb3'.setCell (p := ⟨w1.heap.size, 6, none⟩) (Nat.le_refl _) _
  have hk4 : Blk w4 gr (dz ++ List.replicate 16 90) := by rw [← hw4]; exact (Below.heap_setCell w3 ⟨w1.heap.size, 6, none⟩ (.slice (some ⟨gr, 0, none⟩) dn (dn + 16)) gr (by simp; omega)).trans hk3
  have hdzl : dz.length = dn := HD.out.1.1
  have HPU := Lib.hid (pputData d0 d1 d2 d3 d4 d5 (some ⟨gr, 0, none⟩) dn (dn + 16) dz w4 (roomy_in hk4 hdzl) (by omega) ld0 hd0 ld1 hd1 ld2 hd2)
  have fr := hA3.free 6
  have y0 := hA3.cell (i := 0) rfl
  have y1 := hA3.cell (i := 1) rfl
  have y2 := hA3.cell (i := 2) rfl
  have y3 := hA3.cell (i := 3) rfl
  have y4 := hA3.cell (i := 4) rfl
  have y5 := hA3.cell (i := 5) rfl
  have y6 := hA3.cell (i := 6) rfl
  have e0 := hA4.cell (i := 0) rfl
  have e1 := hA4.cell (i := 1) rfl
  have e2 := hA4.cell (i := 2) rfl
  have e3 := hA4.cell (i := 3) rfl
  have e4 := hA4.cell (i := 4) rfl
  have e5 := hA4.cell (i := 5) rfl
  have e6 := hA4.cell (i := 6) rfl
  have hR4 : Row8 gr w4 (some ⟨gr, 0, none⟩) dn (dn + 16) dz := Row8.of_part hk4 (Nat.le_refl _) hdzl (Byt.rep (by omega) (by omega) _) (by simp; omega) (by unfold maxLen; omega)
  have H4 := Lib.hid (And.intro hA4 (And.intro hb4 (And.intro hk4 hR4)))
  clear hb3' hA3 hA4 hb4 hk4 hk3 hb3 hR4 HV hgr
  go_wp2_with fail
  refine HPU.out.mono ?_
  rintro e w5 ⟨pa, pc, rfl, hb5, hr5⟩
  obtain ⟨LP, hLP⟩ : ∃ LP, LP = (dataB d0 d1 d2 dz).length := ⟨_, rfl⟩
  rw [← hLP] at hr5 ⊢
  obtain ⟨w6, hw6⟩ : ∃ w6, w5.alloc (.cells #[.int .u8 0, .int .u8 (dflags d3 d4 d5), .slice pa LP pc] 28) = w6 := ⟨_, rfl⟩
  have hb6 : Below w5.heap.size w5 w6 := by rw [← hw6]; exact chunkBelow _ _ _ _
  have hA6 : Arr w6 w5.heap.size 28 [.int .u8 0, .int .u8 (dflags d3 d4 d5), .slice pa LP pc] := by rw [← hw6]; exact chunkBox _ _ _ _
  have hb46 := hb5.trans (hb6.mono hb5.size)
  have hb16 := H4.out.2.1.trans (hb46.mono H4.out.2.1.size)
  have HLP := Lib.hid (show LP ≤ 100000 by rw [hLP]; rw [dataB_len]; omega)
  have HB6 := Lib.hid (HB1.out.trans (hb16.mono HB1.out.size))
  have HP6 := Lib.hid (And.intro hA6 (hr5.keep hb6))
  have HI6 := Lib.hid (And.intro (H4.out.1.keep hb46) (And.intro (H4.out.2.2.1.below hb46) (And.intro H4.out.2.2.2 hb46)))
  have HX6 := Lib.hid (HX1.out.keep hb16)
  have HC6 := Lib.hid (HC1.out.keep hb16)
  have HR6 := Lib.hid (HR0.out.1.below HB6.out)
  clear hb5 hr5 hb6 hA6 hb46 hb16 hLP HPU H4 HX1 HC1 HB1 fr y0 y1 y2 y3 y4 y5 y6 e0 e1 e2 e3 e4 e5 e6 hw4
  generalize hgi : w1.heap.size = gi at *
  clear hgi
  have c0 := HC6.out.cell (i := 0) rfl
  have c1 := HC6.out.cell (i := 1) rfl
  have c2 := HC6.out.cell (i := 2) rfl
  go_wp2_with fail
  generalize hgp : w5.heap.size = gp at *
  clear c0 c1 c2 hgp
  refine wp_region_any (by kernel_rfl) ?_
  refine Vals.wpAny_goodLast (LDataq w w6 k f p n c zs) (fun W => Below w6.heap.size w6 W) [some 28, some 29, some 30, some 31, some 32, some 33, some 34, some 35, some 7, none] 9 90 _ _ rfl (by kernel_rfl) (by kernel_rfl) (by kernel_rfl) (by decide) rfl ?step ?fin (Below.refl _ _).drew
  case step =>
    intro i o d ho hd hiN a W hJ hdf hdep hfr K hK
    match i, ho, hd with
    | 0, ho, hd =>
      have ho' := ho
      simp only [List.getElem?_toArray, List.getElem?_cons_zero, Option.some.injEq] at ho hd
      subst ho hd
      have r3 : a.eval (.tmp 3) = .pointer (some ⟨w.heap.size + 1, 0, none⟩) := hfr 3 (by decide)
      rw [Vals.eval_tmp] at r3
      refine Vals.wpOp_run ho' rfl ?_
      clear hdep hfr ho' hdf
      go_simp
      exact hK _ _ (fun _ _ h => h) hJ (fun _ => rfl)
    | 1, ho, hd =>
      have ho' := ho
      simp only [List.getElem?_toArray, List.getElem?_cons_zero, List.getElem?_cons_succ, Option.some.injEq] at ho hd
      subst ho hd
      have r28 : a.eval (.tmp 28) = .pointer (some ⟨w.heap.size + 1, 0, none⟩) := hdep ⟨0, .data⟩ (by simp) rfl 28 rfl
      rw [Vals.eval_tmp] at r28
      have c0 := (HC6.out.keep hJ).cell (i := 0) rfl
      refine Vals.wpOp_run ho' rfl ?_
      clear hdep hfr ho' hdf
      go_simp
      exact hK _ _ (fun _ _ h => h) hJ (fun _ => rfl)
    | 2, ho, hd =>
      have ho' := ho
      simp only [List.getElem?_toArray, List.getElem?_cons_zero, List.getElem?_cons_succ, Option.some.injEq] at ho hd
      subst ho hd
      have r3 : a.eval (.tmp 3) = .pointer (some ⟨w.heap.size + 1, 0, none⟩) := hfr 3 (by decide)
      rw [Vals.eval_tmp] at r3
      refine Vals.wpOp_run ho' rfl ?_
      clear hdep hfr ho' hdf
      go_simp
      exact hK _ _ (fun _ _ h => h) hJ (fun _ => rfl)
    | 3, ho, hd =>
      have ho' := ho
      simp only [List.getElem?_toArray, List.getElem?_cons_zero, List.getElem?_cons_succ, Option.some.injEq] at ho hd
      subst ho hd
      have r30 : a.eval (.tmp 30) = .pointer (some ⟨w.heap.size + 1, 1, none⟩) := hdep ⟨2, .data⟩ (by simp) rfl 30 rfl
      rw [Vals.eval_tmp] at r30
      have c0 := (HC6.out.keep hJ).cell (i := 1) rfl
      refine Vals.wpOp_run ho' rfl ?_
      clear hdep hfr ho' hdf
      go_simp
      exact hK _ _ (fun _ _ h => h) hJ (fun _ => rfl)
    | 4, ho, hd =>
      have ho' := ho
      simp only [List.getElem?_toArray, List.getElem?_cons_zero, List.getElem?_cons_succ, Option.some.injEq] at ho hd
      subst ho hd
      have r3 : a.eval (.tmp 3) = .pointer (some ⟨w.heap.size + 1, 0, none⟩) := hfr 3 (by decide)
      rw [Vals.eval_tmp] at r3
      refine Vals.wpOp_run ho' rfl ?_
      clear hdep hfr ho' hdf
      go_simp
      exact hK _ _ (fun _ _ h => h) hJ (fun _ => rfl)
    | 5, ho, hd =>
      have ho' := ho
      simp only [List.getElem?_toArray, List.getElem?_cons_zero, List.getElem?_cons_succ, Option.some.injEq] at ho hd
      subst ho hd
      have r32 : a.eval (.tmp 32) = .pointer (some ⟨w.heap.size + 1, 2, none⟩) := hdep ⟨4, .data⟩ (by simp) rfl 32 rfl
      rw [Vals.eval_tmp] at r32
      have c0 := (HC6.out.keep hJ).cell (i := 2) rfl
      refine Vals.wpOp_run ho' rfl ?_
      clear hdep hfr ho' hdf
      go_simp
      exact hK _ _ (fun _ _ h => h) hJ (fun _ => rfl)
    | 6, ho, hd =>
      have ho' := ho
      simp only [List.getElem?_toArray, List.getElem?_cons_zero, List.getElem?_cons_succ, Option.some.injEq] at ho hd
      subst ho hd
      have r33 : a.eval (.tmp 33) = .slice p n c := hdep ⟨5, .data⟩ (by simp) rfl 33 rfl
      rw [Vals.eval_tmp] at r33
      refine Vals.wpOp_run ho' rfl ?_
      clear hdep hfr ho' hdf
      go_simp
      refine (roomy_any p n c zs W (HR6.out.below hJ) (by omega)).mono ?_
      rintro e w' ⟨rfl, hb3, hk3⟩
      exact hK _ _ (LDataq_mono hb3) (hJ.trans (hb3.mono hJ.size)) (fun _ => ⟨_, rfl, hJ.size, hk3⟩)
    | 7, ho, hd =>
      have ho' := ho
      simp only [List.getElem?_toArray, List.getElem?_cons_zero, List.getElem?_cons_succ, Option.some.injEq] at ho hd
      subst ho hd
      have r29 : a.eval (.tmp 29) = .int .u8 k := hdep ⟨1, .data⟩ (by simp) rfl 29 rfl
      rw [Vals.eval_tmp] at r29
      have r31 : a.eval (.tmp 31) = .int .u8 f := hdep ⟨3, .data⟩ (by simp) rfl 31 rfl
      rw [Vals.eval_tmp] at r31
      have g34 : ∃ gr_34, a.eval (.tmp 34) = .slice (some ⟨gr_34, 0, none⟩) n (n + 16) ∧ w6.heap.size ≤ gr_34 ∧ Blk W gr_34 (zs ++ List.replicate 16 90) := hdep ⟨6, .data⟩ (by simp) rfl 34 rfl
      rw [Vals.eval_tmp] at g34
      obtain ⟨gr_34, r34, h34_0, h34_1⟩ := g34
      refine Vals.wpOp_run ho' rfl ?_
      clear hdep hfr ho' hdf
      go_simp
      exact hK _ _ (fun _ _ h => h) hJ (fun _ => ⟨_, rfl, h34_0, h34_1⟩)
    | 8, ho, hd =>
      have ho' := ho
      simp only [List.getElem?_toArray, List.getElem?_cons_zero, List.getElem?_cons_succ, Option.some.injEq] at ho hd
      subst ho hd
      refine Vals.wpOp_run ho' rfl ?_
      clear hdep hfr ho' hdf
      go_simp
      have hb3 : Below W.heap.size W (W.alloc (.cells #[.int .u8 0, .int .u8 0, .slice none 0 0] 28)) := (Below.refl _ _).alloc (Nat.le_refl _) _
      exact hK _ _ (LDataq_mono hb3) (hJ.trans (hb3.mono hJ.size)) (fun _ => ⟨_, rfl, hJ.size, arr_new _ _ _⟩)
    | i + 9, ho, hd => omega
  case fin =>
    intro W fq hJ hG
    have q0 : fq 28 = .pointer (some ⟨w.heap.size + 1, 0, none⟩) := hG 0 28 rfl
    have q1 : fq 29 = .int .u8 k := hG 1 29 rfl
    have q2 : fq 30 = .pointer (some ⟨w.heap.size + 1, 1, none⟩) := hG 2 30 rfl
    have q3 : fq 31 = .int .u8 f := hG 3 31 rfl
    have q4 : fq 32 = .pointer (some ⟨w.heap.size + 1, 2, none⟩) := hG 4 32 rfl
    have q5 : fq 33 = .slice p n c := hG 5 33 rfl
    obtain ⟨gr_34, q6, hq34_0, hq34_1⟩ : ∃ gr_34, fq 34 = .slice (some ⟨gr_34, 0, none⟩) n (n + 16) ∧ w6.heap.size ≤ gr_34 ∧ Blk W gr_34 (zs ++ List.replicate 16 90) := hG 6 34 rfl
    obtain ⟨gr_35, q7, hq35_0, hq35_1⟩ : ∃ gr_35, fq 35 = .agg #[.int .u8 k, .int .u8 f, .slice (some ⟨gr_35, 0, none⟩) n (n + 16)] ∧ w6.heap.size ≤ gr_35 ∧ Blk W gr_35 (zs ++ List.replicate 16 90) := hG 7 35 rfl
    obtain ⟨gn_7, q8, hq7_0, hq7_1⟩ : ∃ gn_7, fq 7 = .pointer (some ⟨gn_7, 0, none⟩) ∧ w6.heap.size ≤ gn_7 ∧ Arr W gn_7 28 [.int .u8 0, .int .u8 0, .slice none 0 0] := hG 8 7 rfl
    clear hG
    refine Vals.wpOp_run rfl rfl ?_
    simp only [Vals.puts, Vals.pairs, List.filterMap_cons, List.filterMap_nil, id, List.map_cons, List.map_nil, List.foldl_cons, List.foldl_nil, q0, q1, q2, q3, q4, q5, q6, q7, q8]
    clear q0 q1 q2 q3 q4 q5 q6 q7 q8
    go_frame
    obtain ⟨W4, hW4⟩ : ∃ x, (((W.setCell ⟨gn_7, 0, none⟩ (.int .u8 k)).setCell ⟨gn_7, 1, none⟩ (.int .u8 f)).setCell ⟨gn_7, 2, none⟩ (.slice (some ⟨gr_35, 0, none⟩) n (n + 16))) = x := ⟨_, rfl⟩
    have hA4 : Arr _ gn_7 28 [.int .u8 k, .int .u8 f, .slice (some ⟨gr_35, 0, none⟩) n (n + 16)] := (((hq7_1.set 0 (.int .u8 k)).set 1 (.int .u8 f)).set 2 (.slice (some ⟨gr_35, 0, none⟩) n (n + 16)))
    have hB4 := ((((hJ : Below w6.heap.size w6 W).setCell (p := ⟨gn_7, 0, none⟩) hq7_0 (.int .u8 k)).setCell (p := ⟨gn_7, 1, none⟩) hq7_0 (.int .u8 f)).setCell (p := ⟨gn_7, 2, none⟩) hq7_0 (.slice (some ⟨gr_35, 0, none⟩) n (n + 16)))
    rw [hW4] at hA4 hB4
    have hne := hq35_1.ne_arr hq7_1
    have hk4 : Blk _ gr_35 (zs ++ List.replicate 16 90) := (Below.heap_setCell _ ⟨gn_7, 2, none⟩ (.slice (some ⟨gr_35, 0, none⟩) n (n + 16)) _ (by simpa using hne)).trans ((Below.heap_setCell _ ⟨gn_7, 1, none⟩ (.int .u8 f) _ (by simpa using hne)).trans ((Below.heap_setCell W ⟨gn_7, 0, none⟩ (.int .u8 k) _ (by simpa using hne)).trans hq35_1))
    rw [hW4] at hk4
    have fr0 := hq7_1.free 0
    have fr1 := hq7_1.free 1
    have fr2 := hq7_1.free 2
    have y0 := hq7_1.cell (i := 0) rfl
    have y1 := hq7_1.cell (i := 1) rfl
    have y2 := hq7_1.cell (i := 2) rfl
    have HG7 := Lib.hid (And.intro hA4 (And.intro hB4 (And.intro hk4 hq35_0)))
    clear hA4 hB4 hk4 hne hJ hq7_0 hq7_1 hq34_0 hq34_1 hq35_0 hq35_1
    go_simp
    clear fr0 fr1 fr2 y0 y1 y2 hW4
    generalize gn_7 = gq at *
    generalize gr_35 = g6 at *
    generalize W4 = w7 at *
    have hin7 : Reads w7 (some ⟨g6, 0, none⟩) n zs := roomy_in HG7.out.2.2.1 HR0.out.1.1
    have HB7 := Lib.hid (HB6.out.trans (HG7.out.2.1.mono HB6.out.size))
    have HGE := Lib.hid (pgetData k f (some ⟨g6, 0, none⟩) n (n + 16) zs w7 hin7 HR0.out.2.1 (by omega) (by omega))
    clear hin7
    have c0 := HG7.out.1.cell (i := 0) rfl
    have c1 := HG7.out.1.cell (i := 1) rfl
    have c2 := HG7.out.1.cell (i := 2) rfl
    obtain ⟨X0, X1, X2, X3, X4, X5, bs, m, er, hbsl, hbsb, hml, hfix⟩ := gotD_fix k f zs
    have HFIX := Lib.hid hfix
    have hzl : zs.length = n := HR0.out.1.1
    have HBS := Lib.hid (And.intro (hbsb HR0.out.2.1) (show m ≤ 8192 by omega))
    clear hfix hbsb hml hbsl hzl
    go_wp2_with fail
    refine HGE.out.mono ?_
    rintro e w8 hgot
    obtain ⟨xa, xc, rfl, hb8, hxr⟩ := HFIX.out _ _ _ hgot
    clear hgot
    have hbx : Below w8.heap.size w8 (w8.alloc (.cells #[.int .u32 X0, .int .u16 X1, .int .u16 X2, .bool X3, .bool X4, .bool X5, .slice xa m xc] 26)) := (Below.refl _ _).alloc (Nat.le_refl _) _
    have hAx : Arr (w8.alloc (.cells #[.int .u32 X0, .int .u16 X1, .int .u16 X2, .bool X3, .bool X4, .bool X5, .slice xa m xc] 26)) w8.heap.size 26 [.int .u32 X0, .int .u16 X1, .int .u16 X2, .bool X3, .bool X4, .bool X5, .slice xa m xc] := arr_new _ _ _
    have hb79 := hb8.trans (hbx.mono hb8.size)
    have HB9 := Lib.hid (HB7.out.trans (hb79.mono HB7.out.size))
    have hC9 := HC6.out.keep (HG7.out.2.1.trans (hb79.mono HG7.out.2.1.size))
    clear c0 c1 c2
    have c0 := hC9.cell (i := 0) rfl
    have c1 := hC9.cell (i := 1) rfl
    have c2 := hC9.cell (i := 2) rfl
    have HGR2 := Lib.hid (rgetData k f p n c zs (w8.alloc (.cells #[.int .u32 X0, .int .u16 X1, .int .u16 X2, .bool X3, .bool X4, .bool X5, .slice xa m xc] 26)) (HR0.out.1.below HB9.out) HR0.out.2.1 HR0.out.2.2 (by omega))
    have HXP0 := Lib.hid (And.intro hAx (And.intro hxr (And.intro hbx hb8)))
    have HG9 := Lib.hid (And.intro (HG7.out.1.keep hb79) (And.intro (HG7.out.2.1.trans (hb79.mono HG7.out.2.1.size)) (And.intro (HG7.out.2.2.1.below hb79) (And.intro (Row8.of_part (c := n + 16) HG7.out.2.2.1 HG7.out.2.2.2 HR0.out.1.1 (Byt.rep (by omega) (by omega) _) (by have := HR0.out.1.1; simp; omega) (by unfold maxLen; omega)) HG7.out.2.1))))
    clear hxr hbx hAx hb79 hC9 hb8 HGE HG7 HB7
    go_wp2_with fail
    refine HGR2.out.mono ?_
    rintro e w10 hgot
    obtain ⟨ya, yc, rfl, hb10, hyr⟩ := HFIX.out _ _ _ hgot
    clear hgot HFIX
    have hby : Below w10.heap.size w10 (w10.alloc (.cells #[.int .u32 X0, .int .u16 X1, .int .u16 X2, .bool X3, .bool X4, .bool X5, .slice ya m yc] 26)) := (Below.refl _ _).alloc (Nat.le_refl _) _
    have hAy : Arr (w10.alloc (.cells #[.int .u32 X0, .int .u16 X1, .int .u16 X2, .bool X3, .bool X4, .bool X5, .slice ya m yc] 26)) w10.heap.size 26 [.int .u32 X0, .int .u16 X1, .int .u16 X2, .bool X3, .bool X4, .bool X5, .slice ya m yc] := arr_new _ _ _
    have hb11 := hb10.trans (hby.mono hb10.size)
    have h6 := HG9.out.2.1.trans (hb11.mono HG9.out.2.1.size)
    have hb8y := HXP0.out.2.2.1.trans (hb11.mono HXP0.out.2.2.1.size)
    have HAP0 := Lib.hid (show ∀ W g, Below (w10.alloc (.cells #[.int .u32 X0, .int .u16 X1, .int .u16 X2, .bool X3, .bool X4, .bool X5, .slice ya m yc] 26)).heap.size (w10.alloc (.cells #[.int .u32 X0, .int .u16 X1, .int .u16 X2, .bool X3, .bool X4, .bool X5, .slice ya m yc] 26)) W → Arr W g 24 [.slice pa LP pc, .slice (some ⟨gr, 0, none⟩) dn (dn + 16), .slice xa m xc, .slice (some ⟨g6, 0, none⟩) n (n + 16)] → Calls Try.prog 22 #[.slice (some ⟨g, 0, none⟩) 4 4] W fun e w' => e = .returned (.bool true) ∧ Below W.heap.size W w' from fun W g hb hA => apart4_of HI6.out.2.2.1 HP6.out.2 HG9.out.2.2.2.1 HXP0.out.2.1 HD.out.2.1 (dataB_byt d0 d1 d2 HD.out.2.1) HR0.out.2.1 HBS.out.1 (by omega) (by have := HLP.out; omega) (by omega) (by have := HBS.out.2; omega) HI6.out.2.2.2 HG9.out.2.2.2.2 HXP0.out.2.2.2 (hb8y.trans (hb.mono hb8y.size)) hA)
    have HBI := Lib.hid (HB9.out.trans (hb11.mono HB9.out.size))
    have HF9 := Lib.hid (HX6.out.keep h6)
    have HC9 := Lib.hid (HC6.out.keep h6)
    have HI9 := Lib.hid (HI6.out.1.keep h6)
    have HGR := Lib.hid (HI6.out.2.1.below h6)
    have HP9 := Lib.hid (HP6.out.1.keep h6)
    have HPB := Lib.hid (HP6.out.2.reads.below h6)
    have HQ9 := Lib.hid (HG9.out.1.keep hb11)
    have HQ := Lib.hid (HG9.out.2.2.1.below hb11)
    have HX9 := Lib.hid (HXP0.out.1.keep hb11)
    have HXR := Lib.hid (HXP0.out.2.1.reads.below hb8y)
    have HY9 := Lib.hid hAy
    have HYR := Lib.hid (hyr.reads.below hby)
    clear hyr hby hAy hb11 h6 hb10 hb8y HGR2 HXP0 HG9 HB9 HP6 HI6 HX6 HC6 HR6 HB6 c0 c1 c2
    go_wp2_with fail
    generalize (w10.alloc (.cells #[.int .u32 X0, .int .u16 X1, .int .u16 X2, .bool X3, .bool X4, .bool X5, .slice ya m yc] 26)) = wr at HBI HF9 HC9 HI9 HGR HP9 HPB HQ9 HQ HX9 HXR HY9 HYR HAP0 ⊢
    generalize w10.heap.size = gy at *
    generalize w8.heap.size = gx at *
    refine wp_region_any (by kernel_rfl) ?_
    refine Vals.wpAny_goodW (LDatar w wr d0 d1 d2 d3 d4 d5 da dn dk dz X0 X1 X2 X3 X4 X5 er k f p n c pa LP pc xa m xc ya yc gi gr gp gq g6 gx gy) (fun _ => (fun W => Below wr.heap.size wr W)) [some 46, some 47, some 48, some 49, some 50, some 51, some 52, some 53, some 54, some 55, some 56, some 57, some 58, some 59, some 60, some 61, some 62, some 63, some 64, some 65, some 66] 90 _ _ rfl (by kernel_rfl) (by kernel_rfl) (by decide) ?step9 ?fin9 (Below.refl _ _).drew
    case step9 =>
      intro i o d ho hd listed a W hls hun hcl hJ hdf hdep hfr K hK
      match i, ho, hd with
      | 0, ho, hd =>
        have ho' := ho
        simp only [List.getElem?_toArray, List.getElem?_cons_zero, Option.some.injEq] at ho hd
        subst ho hd
        have r6 : a.eval (.tmp 6) = .pointer (some ⟨gp, 0, none⟩) := hfr 6 (by decide)
        rw [Vals.eval_tmp] at r6
        have c0 := (HP9.out.keep hJ).cell (i := 0) rfl
        have c1 := (HP9.out.keep hJ).cell (i := 1) rfl
        have c2 := (HP9.out.keep hJ).cell (i := 2) rfl
        refine Vals.wpOp_run ho' rfl ?_
        clear hdep hfr ho' hdf hcl
        go_simp
        exact hK _ _ (fun _ _ h => h) hJ (fun _ => rfl)
      | 1, ho, hd =>
        have ho' := ho
        simp only [List.getElem?_toArray, List.getElem?_cons_zero, List.getElem?_cons_succ, Option.some.injEq] at ho hd
        subst ho hd
        have r2 : a.eval (.tmp 2) = .pointer (some ⟨w.heap.size, 0, none⟩) := hfr 2 (by decide)
        rw [Vals.eval_tmp] at r2
        have c0 := (HF9.out.keep hJ).cell (i := 0) rfl
        have c1 := (HF9.out.keep hJ).cell (i := 1) rfl
        have c2 := (HF9.out.keep hJ).cell (i := 2) rfl
        have c3 := (HF9.out.keep hJ).cell (i := 3) rfl
        have c4 := (HF9.out.keep hJ).cell (i := 4) rfl
        have c5 := (HF9.out.keep hJ).cell (i := 5) rfl
        have c6 := (HF9.out.keep hJ).cell (i := 6) rfl
        refine Vals.wpOp_run ho' rfl ?_
        clear hdep hfr ho' hdf hcl
        go_simp
        exact hK _ _ (fun _ _ h => h) hJ (fun _ => rfl)
      | 2, ho, hd =>
        have ho' := ho
        simp only [List.getElem?_toArray, List.getElem?_cons_zero, List.getElem?_cons_succ, Option.some.injEq] at ho hd
        subst ho hd
        have r47 : a.eval (.tmp 47) = .agg #[.int .u32 d0, .int .u16 d1, .int .u16 d2, .bool d3, .bool d4, .bool d5, .slice da dn dk] := (hdep ⟨1, .data⟩ (by simp) rfl).2 47 rfl
        rw [Vals.eval_tmp] at r47
        refine Vals.wpOp_run ho' rfl ?_
        clear hdep hfr ho' hdf hcl
        go_simp
        refine (rputData d0 d1 d2 d3 d4 d5 da dn dk dz W (HD.out.1.below (HBI.out.trans (hJ.mono HBI.out.size))) (by omega) ld0 hd0 ld1 hd1 ld2 hd2).mono ?_
        rintro e w' ⟨b1, e1, rfl, hb3, hr3⟩
        exact hK _ _ (LDatar_mono hb3) (hJ.trans (hb3.mono hJ.size)) (fun _ => ⟨_, _, rfl, hr3.reads⟩)
      | 3, ho, hd =>
        have ho' := ho
        simp only [List.getElem?_toArray, List.getElem?_cons_zero, List.getElem?_cons_succ, Option.some.injEq] at ho hd
        subst ho hd
        have r46 : a.eval (.tmp 46) = .agg #[.int .u8 0, .int .u8 (dflags d3 d4 d5), .slice pa LP pc] := (hdep ⟨0, .data⟩ (by simp) rfl).2 46 rfl
        rw [Vals.eval_tmp] at r46
        have g48 : ∃ b1_48 e1_48, a.eval (.tmp 48) = .agg #[.int .u8 0, .int .u8 (dflags d3 d4 d5), .slice b1_48 (dataB d0 d1 d2 dz).length e1_48] ∧ Reads W b1_48 (dataB d0 d1 d2 dz).length (dataB d0 d1 d2 dz) := (hdep ⟨2, .data⟩ (by simp) rfl).2 48 rfl
        rw [Vals.eval_tmp] at g48
        obtain ⟨b1_48, e1_48, r48, h48_0⟩ := g48
        refine Vals.wpOp_run ho' rfl ?_
        clear hdep hfr ho' hdf hcl
        go_simp
        refine (rsame_yes 0 (dflags d3 d4 d5) pa b1_48 LP _ pc e1_48 (dataB d0 d1 d2 dz) W (HPB.out.below hJ) h48_0 (dataB_byt d0 d1 d2 HD.out.2.1) (by have := HLP.out; omega)).mono ?_
        rintro e w' ⟨rfl, hb3⟩
        exact hK _ _ (LDatar_mono hb3) (hJ.trans (hb3.mono hJ.size)) (fun _ => rfl)
      | 4, ho, hd =>
        have ho' := ho
        simp only [List.getElem?_toArray, List.getElem?_cons_zero, List.getElem?_cons_succ, Option.some.injEq] at ho hd
        subst ho hd
        have r49 : a.eval (.tmp 49) = .bool true := (hdep ⟨3, .data⟩ (by simp) rfl).2 49 rfl
        rw [Vals.eval_tmp] at r49
        refine Vals.wpOp_run ho' rfl ?_
        clear hdep hfr ho' hdf hcl
        go_simp
        exact hK _ _ (fun _ _ h => h) hJ (fun _ => rfl)
      | 5, ho, hd =>
        have ho' := ho
        simp only [List.getElem?_toArray, List.getElem?_cons_zero, List.getElem?_cons_succ, Option.some.injEq] at ho hd
        subst ho hd
        have r50 : a.eval (.tmp 50) = .bool false := (hdep ⟨4, .data⟩ (by simp) rfl).2 50 rfl
        rw [Vals.eval_tmp] at r50
        refine Vals.wpOp_run ho' rfl ?_
        clear hdep hfr ho' hdf hcl
        go_simp
        exact hK _ _ (fun _ _ h => h) hJ (fun _ => rfl)
      | 6, ho, hd =>
        have ho' := ho
        simp only [List.getElem?_toArray, List.getElem?_cons_zero, List.getElem?_cons_succ, Option.some.injEq] at ho hd
        subst ho hd
        have hgd : a.eval (.tmp 51) = .bool false := (hdep ⟨5, .guard⟩ (by simp) rfl).2 51 rfl
        have r5 : a.eval (.tmp 5) = .pointer (some ⟨gi, 0, none⟩) := hfr 5 (by decide)
        rw [Vals.eval_tmp] at r5
        refine Vals.wpOp_run ho' (by unfold Region.wanted; simp only []; rw [Vals.yielded_of (d := 51) rfl hgd]; rfl) ?_
        clear hdep hfr ho' hdf hgd hcl
        go_simp
        exact hK _ _ (fun _ _ h => h) hJ (fun _ => rfl)
      | 7, ho, hd =>
        have ho' := ho
        simp only [List.getElem?_toArray, List.getElem?_cons_zero, List.getElem?_cons_succ, Option.some.injEq] at ho hd
        subst ho hd
        have hgd : a.eval (.tmp 51) = .bool false := (hdep ⟨5, .guard⟩ (by simp) rfl).2 51 rfl
        have r52 : a.eval (.tmp 52) = .pointer (some ⟨gi, 6, none⟩) := (hdep ⟨6, .data⟩ (by simp) rfl).2 52 rfl
        rw [Vals.eval_tmp] at r52
        have c0 := (HI9.out.keep hJ).cell (i := 6) rfl
        refine Vals.wpOp_run ho' (by unfold Region.wanted; simp only []; rw [Vals.yielded_of (d := 51) rfl hgd]; rfl) ?_
        clear hdep hfr ho' hdf hgd hcl
        go_simp
        exact hK _ _ (fun _ _ h => h) hJ (fun _ => rfl)
      | 8, ho, hd =>
        have ho' := ho
        simp only [List.getElem?_toArray, List.getElem?_cons_zero, List.getElem?_cons_succ, Option.some.injEq] at ho hd
        subst ho hd
        have hgd : a.eval (.tmp 51) = .bool false := (hdep ⟨5, .guard⟩ (by simp) rfl).2 51 rfl
        have r2 : a.eval (.tmp 2) = .pointer (some ⟨w.heap.size, 0, none⟩) := hfr 2 (by decide)
        rw [Vals.eval_tmp] at r2
        refine Vals.wpOp_run ho' (by unfold Region.wanted; simp only []; rw [Vals.yielded_of (d := 51) rfl hgd]; rfl) ?_
        clear hdep hfr ho' hdf hgd hcl
        go_simp
        exact hK _ _ (fun _ _ h => h) hJ (fun _ => rfl)
      | 9, ho, hd =>
        have ho' := ho
        simp only [List.getElem?_toArray, List.getElem?_cons_zero, List.getElem?_cons_succ, Option.some.injEq] at ho hd
        subst ho hd
        have hgd : a.eval (.tmp 51) = .bool false := (hdep ⟨5, .guard⟩ (by simp) rfl).2 51 rfl
        have r54 : a.eval (.tmp 54) = .pointer (some ⟨w.heap.size, 6, none⟩) := (hdep ⟨8, .data⟩ (by simp) rfl).2 54 rfl
        rw [Vals.eval_tmp] at r54
        have c0 := (HF9.out.keep hJ).cell (i := 6) rfl
        refine Vals.wpOp_run ho' (by unfold Region.wanted; simp only []; rw [Vals.yielded_of (d := 51) rfl hgd]; rfl) ?_
        clear hdep hfr ho' hdf hgd hcl
        go_simp
        exact hK _ _ (fun _ _ h => h) hJ (fun _ => rfl)
      | 10, ho, hd =>
        have ho' := ho
        simp only [List.getElem?_toArray, List.getElem?_cons_zero, List.getElem?_cons_succ, Option.some.injEq] at ho hd
        subst ho hd
        have hgd : a.eval (.tmp 51) = .bool false := (hdep ⟨5, .guard⟩ (by simp) rfl).2 51 rfl
        have r53 : a.eval (.tmp 53) = .slice (some ⟨gr, 0, none⟩) dn (dn + 16) := (hdep ⟨7, .data⟩ (by simp) rfl).2 53 rfl
        rw [Vals.eval_tmp] at r53
        have r55 : a.eval (.tmp 55) = .slice da dn dk := (hdep ⟨9, .data⟩ (by simp) rfl).2 55 rfl
        rw [Vals.eval_tmp] at r55
        refine Vals.wpOp_run ho' (by unfold Region.wanted; simp only []; rw [Vals.yielded_of (d := 51) rfl hgd]; rfl) ?_
        clear hdep hfr ho' hdf hgd hcl
        go_simp
        refine (kept_yes da gr dn dk dz W (HGR.out.below hJ) (HD.out.1.below (HBI.out.trans (hJ.mono HBI.out.size))) HD.out.2.1 (by omega)).mono ?_
        rintro e w' ⟨rfl, hb3⟩
        exact hK _ _ (LDatar_mono hb3) (hJ.trans (hb3.mono hJ.size)) (fun _ => rfl)
      | 11, ho, hd =>
        have ho' := ho
        simp only [List.getElem?_toArray, List.getElem?_cons_zero, List.getElem?_cons_succ, Option.some.injEq] at ho hd
        subst ho hd
        have hgd : a.eval (.tmp 51) = .bool false := (hdep ⟨5, .guard⟩ (by simp) rfl).2 51 rfl
        have r56 : a.eval (.tmp 56) = .bool true := (hdep ⟨10, .data⟩ (by simp) rfl).2 56 rfl
        rw [Vals.eval_tmp] at r56
        refine Vals.wpOp_run ho' (by unfold Region.wanted; simp only []; rw [Vals.yielded_of (d := 51) rfl hgd]; rfl) ?_
        clear hdep hfr ho' hdf hgd hcl
        go_simp
        exact hK _ _ (fun _ _ h => h) hJ (fun _ => rfl)
      | 12, ho, hd =>
        have ho' := ho
        simp only [List.getElem?_toArray, List.getElem?_cons_zero, List.getElem?_cons_succ, Option.some.injEq] at ho hd
        subst ho hd
        have r51 : a.eval (.tmp 51) = .bool false := (hdep ⟨5, .data⟩ (by simp) rfl).2 51 rfl
        rw [Vals.eval_tmp] at r51
        have r57 : a.eval (.tmp 57) = .bool false := (hdep ⟨11, .data⟩ (by simp) rfl).2 57 rfl
        rw [Vals.eval_tmp] at r57
        refine Vals.wpOp_run ho' rfl ?_
        clear hdep hfr ho' hdf hcl
        go_simp
        exact hK _ _ (fun _ _ h => h) hJ (fun _ => rfl)
      | 13, ho, hd =>
        have ho' := ho
        simp only [List.getElem?_toArray, List.getElem?_cons_zero, List.getElem?_cons_succ, Option.some.injEq] at ho hd
        subst ho hd
        have r58 : a.eval (.tmp 58) = .bool false := (hdep ⟨12, .data⟩ (by simp) rfl).2 58 rfl
        rw [Vals.eval_tmp] at r58
        refine Vals.wpOp_run ho' rfl ?_
        clear hdep hfr ho' hdf hcl
        go_simp
        exact hK _ _ (fun _ _ h => h) hJ (fun _ => rfl)
      | 14, ho, hd =>
        have ho' := ho
        simp only [List.getElem?_toArray, List.getElem?_cons_zero, List.getElem?_cons_succ, Option.some.injEq] at ho hd
        subst ho hd
        have hgd : a.eval (.tmp 59) = .bool false := (hdep ⟨13, .guard⟩ (by simp) rfl).2 59 rfl
        have r7 : a.eval (.tmp 7) = .pointer (some ⟨gq, 0, none⟩) := hfr 7 (by decide)
        rw [Vals.eval_tmp] at r7
        refine Vals.wpOp_run ho' (by unfold Region.wanted; simp only []; rw [Vals.yielded_of (d := 59) rfl hgd]; rfl) ?_
        clear hdep hfr ho' hdf hgd hcl
        go_simp
        exact hK _ _ (fun _ _ h => h) hJ (fun _ => rfl)
      | 15, ho, hd =>
        have ho' := ho
        simp only [List.getElem?_toArray, List.getElem?_cons_zero, List.getElem?_cons_succ, Option.some.injEq] at ho hd
        subst ho hd
        have hgd : a.eval (.tmp 59) = .bool false := (hdep ⟨13, .guard⟩ (by simp) rfl).2 59 rfl
        have r60 : a.eval (.tmp 60) = .pointer (some ⟨gq, 2, none⟩) := (hdep ⟨14, .data⟩ (by simp) rfl).2 60 rfl
        rw [Vals.eval_tmp] at r60
        have c0 := (HQ9.out.keep hJ).cell (i := 2) rfl
        refine Vals.wpOp_run ho' (by unfold Region.wanted; simp only []; rw [Vals.yielded_of (d := 59) rfl hgd]; rfl) ?_
        clear hdep hfr ho' hdf hgd hcl
        go_simp
        exact hK _ _ (fun _ _ h => h) hJ (fun _ => rfl)
      | 16, ho, hd =>
        have ho' := ho
        simp only [List.getElem?_toArray, List.getElem?_cons_zero, List.getElem?_cons_succ, Option.some.injEq] at ho hd
        subst ho hd
        have hgd : a.eval (.tmp 59) = .bool false := (hdep ⟨13, .guard⟩ (by simp) rfl).2 59 rfl
        have r3 : a.eval (.tmp 3) = .pointer (some ⟨w.heap.size + 1, 0, none⟩) := hfr 3 (by decide)
        rw [Vals.eval_tmp] at r3
        refine Vals.wpOp_run ho' (by unfold Region.wanted; simp only []; rw [Vals.yielded_of (d := 59) rfl hgd]; rfl) ?_
        clear hdep hfr ho' hdf hgd hcl
        go_simp
        exact hK _ _ (fun _ _ h => h) hJ (fun _ => rfl)
      | 17, ho, hd =>
        have ho' := ho
        simp only [List.getElem?_toArray, List.getElem?_cons_zero, List.getElem?_cons_succ, Option.some.injEq] at ho hd
        subst ho hd
        have hgd : a.eval (.tmp 59) = .bool false := (hdep ⟨13, .guard⟩ (by simp) rfl).2 59 rfl
        have r62 : a.eval (.tmp 62) = .pointer (some ⟨w.heap.size + 1, 2, none⟩) := (hdep ⟨16, .data⟩ (by simp) rfl).2 62 rfl
        rw [Vals.eval_tmp] at r62
        have c0 := (HC9.out.keep hJ).cell (i := 2) rfl
        refine Vals.wpOp_run ho' (by unfold Region.wanted; simp only []; rw [Vals.yielded_of (d := 59) rfl hgd]; rfl) ?_
        clear hdep hfr ho' hdf hgd hcl
        go_simp
        exact hK _ _ (fun _ _ h => h) hJ (fun _ => rfl)
      | 18, ho, hd =>
        have ho' := ho
        simp only [List.getElem?_toArray, List.getElem?_cons_zero, List.getElem?_cons_succ, Option.some.injEq] at ho hd
        subst ho hd
        have hgd : a.eval (.tmp 59) = .bool false := (hdep ⟨13, .guard⟩ (by simp) rfl).2 59 rfl
        have r61 : a.eval (.tmp 61) = .slice (some ⟨g6, 0, none⟩) n (n + 16) := (hdep ⟨15, .data⟩ (by simp) rfl).2 61 rfl
        rw [Vals.eval_tmp] at r61
        have r63 : a.eval (.tmp 63) = .slice p n c := (hdep ⟨17, .data⟩ (by simp) rfl).2 63 rfl
        rw [Vals.eval_tmp] at r63
        refine Vals.wpOp_run ho' (by unfold Region.wanted; simp only []; rw [Vals.yielded_of (d := 59) rfl hgd]; rfl) ?_
        clear hdep hfr ho' hdf hgd hcl
        go_simp
        refine (kept_yes p g6 n c zs W (HQ.out.below hJ) (HR0.out.1.below (HBI.out.trans (hJ.mono HBI.out.size))) HR0.out.2.1 (by omega)).mono ?_
        rintro e w' ⟨rfl, hb3⟩
        exact hK _ _ (LDatar_mono hb3) (hJ.trans (hb3.mono hJ.size)) (fun _ => rfl)
      | 19, ho, hd =>
        have ho' := ho
        simp only [List.getElem?_toArray, List.getElem?_cons_zero, List.getElem?_cons_succ, Option.some.injEq] at ho hd
        subst ho hd
        have hgd : a.eval (.tmp 59) = .bool false := (hdep ⟨13, .guard⟩ (by simp) rfl).2 59 rfl
        have r64 : a.eval (.tmp 64) = .bool true := (hdep ⟨18, .data⟩ (by simp) rfl).2 64 rfl
        rw [Vals.eval_tmp] at r64
        refine Vals.wpOp_run ho' (by unfold Region.wanted; simp only []; rw [Vals.yielded_of (d := 59) rfl hgd]; rfl) ?_
        clear hdep hfr ho' hdf hgd hcl
        go_simp
        exact hK _ _ (fun _ _ h => h) hJ (fun _ => rfl)
      | 20, ho, hd =>
        have ho' := ho
        simp only [List.getElem?_toArray, List.getElem?_cons_zero, List.getElem?_cons_succ, Option.some.injEq] at ho hd
        subst ho hd
        have r59 : a.eval (.tmp 59) = .bool false := (hdep ⟨13, .data⟩ (by simp) rfl).2 59 rfl
        rw [Vals.eval_tmp] at r59
        have r65 : a.eval (.tmp 65) = .bool false := (hdep ⟨19, .data⟩ (by simp) rfl).2 65 rfl
        rw [Vals.eval_tmp] at r65
        refine Vals.wpOp_run ho' rfl ?_
        clear hdep hfr ho' hdf hcl
        go_simp
        exact hK _ _ (fun _ _ h => h) hJ (fun _ => rfl)
      | i + 21, ho, hd => simp at ho
    case fin9 =>
      intro listed W fq2 hall hJ hG
      have q0 : fq2 46 = .agg #[.int .u8 0, .int .u8 (dflags d3 d4 d5), .slice pa LP pc] := hG 0 46 rfl
      have q1 : fq2 47 = .agg #[.int .u32 d0, .int .u16 d1, .int .u16 d2, .bool d3, .bool d4, .bool d5, .slice da dn dk] := hG 1 47 rfl
      obtain ⟨b1_48, e1_48, q2, hq48_0⟩ : ∃ b1_48 e1_48, fq2 48 = .agg #[.int .u8 0, .int .u8 (dflags d3 d4 d5), .slice b1_48 (dataB d0 d1 d2 dz).length e1_48] ∧ Reads W b1_48 (dataB d0 d1 d2 dz).length (dataB d0 d1 d2 dz) := hG 2 48 rfl
      have q3 : fq2 49 = .bool true := hG 3 49 rfl
      have q4 : fq2 50 = .bool false := hG 4 50 rfl
      have q5 : fq2 51 = .bool false := hG 5 51 rfl
      have q6 : fq2 52 = .pointer (some ⟨gi, 6, none⟩) := hG 6 52 rfl
      have q7 : fq2 53 = .slice (some ⟨gr, 0, none⟩) dn (dn + 16) := hG 7 53 rfl
      have q8 : fq2 54 = .pointer (some ⟨w.heap.size, 6, none⟩) := hG 8 54 rfl
      have q9 : fq2 55 = .slice da dn dk := hG 9 55 rfl
      have q10 : fq2 56 = .bool true := hG 10 56 rfl
      have q11 : fq2 57 = .bool false := hG 11 57 rfl
      have q12 : fq2 58 = .bool false := hG 12 58 rfl
      have q13 : fq2 59 = .bool false := hG 13 59 rfl
      have q14 : fq2 60 = .pointer (some ⟨gq, 2, none⟩) := hG 14 60 rfl
      have q15 : fq2 61 = .slice (some ⟨g6, 0, none⟩) n (n + 16) := hG 15 61 rfl
      have q16 : fq2 62 = .pointer (some ⟨w.heap.size + 1, 2, none⟩) := hG 16 62 rfl
      have q17 : fq2 63 = .slice p n c := hG 17 63 rfl
      have q18 : fq2 64 = .bool true := hG 18 64 rfl
      have q19 : fq2 65 = .bool false := hG 19 65 rfl
      have q20 : fq2 66 = .bool false := hG 20 66 rfl
      clear hG hall
      simp only [Vals.puts, Vals.pairs, List.filterMap_cons, List.filterMap_nil, id, List.map_cons, List.map_nil, List.foldl_cons, List.foldl_nil, q0, q1, q2, q3, q4, q5, q6, q7, q8, q9, q10, q11, q12, q13, q14, q15, q16, q17, q18, q19, q20]
      clear q0 q1 q2 q3 q4 q5 q6 q7 q8 q9 q10 q11 q12 q13 q14 q15 q16 q17 q18 q19 q20
      go_frame
      have HAP := Lib.hid (show ∀ W1 g, Below W.heap.size W W1 → Arr W1 g 24 [.slice pa LP pc, .slice (some ⟨gr, 0, none⟩) dn (dn + 16), .slice xa m xc, .slice (some ⟨g6, 0, none⟩) n (n + 16)] → Calls Try.prog 22 #[.slice (some ⟨g, 0, none⟩) 4 4] W1 fun e w' => e = .returned (.bool true) ∧ Below W1.heap.size W1 w' from fun W1 g hb hA => HAP0.out W1 g (hJ.trans (hb.mono hJ.size)) hA)
      replace HF9 := Lib.hid (HF9.out.keep hJ)
      replace HC9 := Lib.hid (HC9.out.keep hJ)
      replace HI9 := Lib.hid (HI9.out.keep hJ)
      replace HGR := Lib.hid (HGR.out.below hJ)
      replace HP9 := Lib.hid (HP9.out.keep hJ)
      replace HPB := Lib.hid (HPB.out.below hJ)
      replace HQ9 := Lib.hid (HQ9.out.keep hJ)
      replace HQ := Lib.hid (HQ.out.below hJ)
      replace HX9 := Lib.hid (HX9.out.keep hJ)
      replace HXR := Lib.hid (HXR.out.below hJ)
      replace HY9 := Lib.hid (HY9.out.keep hJ)
      replace HYR := Lib.hid (HYR.out.below hJ)
      replace HBI := Lib.hid (HBI.out.trans (hJ.mono HBI.out.size))
      clear hJ HAP0
      generalize W = ws at *
      have x0 := HX9.out.cell (i := 0) rfl
      have x1 := HX9.out.cell (i := 1) rfl
      have x2 := HX9.out.cell (i := 2) rfl
      have x3 := HX9.out.cell (i := 3) rfl
      have x4 := HX9.out.cell (i := 4) rfl
      have x5 := HX9.out.cell (i := 5) rfl
      have x6 := HX9.out.cell (i := 6) rfl
      have y0 := HY9.out.cell (i := 0) rfl
      have y1 := HY9.out.cell (i := 1) rfl
      have y2 := HY9.out.cell (i := 2) rfl
      have y3 := HY9.out.cell (i := 3) rfl
      have y4 := HY9.out.cell (i := 4) rfl
      have y5 := HY9.out.cell (i := 5) rfl
      have y6 := HY9.out.cell (i := 6) rfl
      have HSM := Lib.hid (sameData_yes X0 X1 X2 X3 X4 X5 xa ya m xc yc bs ws HXR.out HYR.out HBS.out.1 (by have := HBS.out.2; omega))
      go_wp2_with fail
      refine HSM.out.mono ?_
      rintro e v1 ⟨rfl, hb1⟩
      clear HSM HXR HYR x0 x1 x2 x3 x4 x5 x6 y0 y1 y2 y3 y4 y5 y6
      have p2 := (HP9.out.keep hb1).cell (i := 2) rfl
      have i6 := (HI9.out.keep hb1).cell (i := 6) rfl
      have x6 := (HX9.out.keep hb1).cell (i := 6) rfl
      have q2 := (HQ9.out.keep hb1).cell (i := 2) rfl
      have hal : Below v1.heap.size v1 (v1.alloc (.cells #[.slice pa LP pc, .slice (some ⟨gr, 0, none⟩) dn (dn + 16), .slice xa m xc, .slice (some ⟨g6, 0, none⟩) n (n + 16)] 24)) := (Below.refl _ _).alloc (Nat.le_refl _) _
      have HAPv := Lib.hid (HAP.out (v1.alloc (.cells #[.slice pa LP pc, .slice (some ⟨gr, 0, none⟩) dn (dn + 16), .slice xa m xc, .slice (some ⟨g6, 0, none⟩) n (n + 16)] 24)) v1.heap.size (hb1.trans (hal.mono hb1.size)) (arr_new _ _ _))
      have HB1 := Lib.hid (HBI.out.trans ((hb1.trans (hal.mono hb1.size)).mono HBI.out.size))
      clear hal hb1 HAP HBI HP9 HI9 HX9 HY9 HQ9 HPB HQ HGR HF9 HC9
      go_wp2_with fail
      refine HAPv.out.mono ?_
      rintro e v2 ⟨rfl, hb2⟩
      have HB2 := Lib.hid (HB1.out.trans (hb2.mono HB1.out.size))
      clear HAPv hb2 HB1 p2 i6 x6 q2
      go_wp2_with (go_at_call 13; refine (works_any _).mono ?_; rintro e w' ⟨rfl, hb⟩)
      go_ret
      exact ⟨rfl, HB2.out.trans (hb.mono HB2.out.size)⟩

end Go.Proofs.Ytlihcckgnnnekaa
