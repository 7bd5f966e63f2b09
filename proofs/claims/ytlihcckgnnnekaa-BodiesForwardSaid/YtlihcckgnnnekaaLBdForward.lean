/-
  The walk of BodiesForward. Written by genfwd.py.
-/
import Derived.Test.YtlihcckgnnnekaaBdMany
namespace Go.Proofs.Ytlihcckgnnnekaa
open Go.RowKit
set_option linter.unusedVariables false
set_option linter.unusedSimpArgs false
set_option linter.unnecessarySimpa false

set_option maxRecDepth 100000 in
set_option maxHeartbeats 1600000 in
theorem manyF_any (f0 : Int) (fa : Option Addr) (fn' fk : Nat) (w : World) :
    Calls Try.prog 28 #[.agg #[.int .u32 0, .int .u32 0, .slice none 0 0, .slice none 0 0], .agg #[.int .u32 f0, .slice fa fn' fk]] w fun e w' => e = .returned (.bool (decide (2048 < fn'))) ∧ Below w.heap.size w w' := by
  obtain ⟨w0, hw0⟩ : ∃ w0, w.alloc (.cells #[.int .u32 0, .int .u32 0, .slice none 0 0, .slice none 0 0] 52) = w0 := ⟨_, rfl⟩
  have hb0 : Below w.heap.size w w0 := by rw [← hw0]; exact (Below.refl _ _).alloc (Nat.le_refl _) _
  have hs0 : w0.heap.size = w.heap.size + 1 := by rw [← hw0]; simp
  have ha0 : Arr w0 w.heap.size 52 [.int .u32 0, .int .u32 0, .slice none 0 0, .slice none 0 0] := by rw [← hw0]; exact arr_new _ _ _
  obtain ⟨w1, hw1⟩ : ∃ w1, w0.alloc (.cells #[.int .u32 f0, .slice fa fn' fk] 56) = w1 := ⟨_, rfl⟩
  have hb1 : Below w0.heap.size w0 w1 := by rw [← hw1]; exact (Below.refl _ _).alloc (Nat.le_refl _) _
  have hk1 : Arr w1 (w.heap.size + 1) 56 [.int .u32 f0, .slice fa fn' fk] := by rw [← hw1, ← hs0]; exact arr_new _ _ _
  have ha1 := ha0.keep hb1
  have c2 := ha1.cell (i := 2) rfl
  have c3 := ha1.cell (i := 3) rfl
  have d1 := hk1.cell (i := 1) rfl
  have HB := Lib.hid (hb0.trans (hb1.mono hb0.size))
  clear hb0 hb1 ha0 ha1 hk1
  by_cases h3 : 2048 < fn'
  · have g3 : (2048 : Int) < fn' := by omega
    rw [decide_eq_true (by omega)]
    clear h3
    go_enter Try.func28, Try.ntmps28
    go_wp2; go_ret; exact ⟨rfl, HB.out⟩
  have g3 : ¬ (2048 : Int) < fn' := by omega
  rw [decide_eq_false (by omega)]
  clear h3
  go_enter Try.func28, Try.ntmps28
  go_wp2; go_ret; exact ⟨rfl, HB.out⟩

/-- What the operations of the drawn region leave behind. -/
def LFq (w w6 : World) (k f : Int) (p : Option Addr) (n c : Nat) (zs : List Int) (i : Nat) (v : Value) (W : World) : Prop := match i with | 0 => v = .pointer (some ⟨w.heap.size + 1, 0, none⟩) | 1 => v = .int .u8 k | 2 => v = .pointer (some ⟨w.heap.size + 1, 1, none⟩) | 3 => v = .int .u8 f | 4 => v = .pointer (some ⟨w.heap.size + 1, 2, none⟩) | 5 => v = .slice p n c | 6 => ∃ gr, v = .slice (some ⟨gr, 0, none⟩) n (n + 16) ∧ w6.heap.size ≤ gr ∧ Blk W gr (zs ++ List.replicate 16 90) | 7 => ∃ gr_37, v = .agg #[.int .u8 k, .int .u8 f, .slice (some ⟨gr_37, 0, none⟩) n (n + 16)] ∧ w6.heap.size ≤ gr_37 ∧ Blk W gr_37 (zs ++ List.replicate 16 90) | 8 => ∃ gn, v = .pointer (some ⟨gn, 0, none⟩) ∧ w6.heap.size ≤ gn ∧ Arr W gn 28 [.int .u8 0, .int .u8 0, .slice none 0 0] | _ => True
theorem LFq_mono {w w6 : World} {k f : Int} {p : Option Addr} {n c : Nat} {zs : List Int} {W W' : World} (hb : Below W.heap.size W W') (jo : Nat) (xo : Value) (h : LFq w w6 k f p n c zs jo xo W) : LFq w w6 k f p n c zs jo xo W' := by
  unfold LFq at h ⊢
  split at h <;> try exact h
  · obtain ⟨gr, e0, h0_0, h0_1⟩ := h
    exact ⟨gr, e0, h0_0, h0_1.below hb⟩
  · obtain ⟨gr_37, e0, h0_0, h0_1⟩ := h
    exact ⟨gr_37, e0, h0_0, h0_1.below hb⟩
  · obtain ⟨gn, e0, h0_0, h0_1⟩ := h
    exact ⟨gn, e0, h0_0, h0_1.keep hb⟩

/-- What the operations of the drawn region leave behind. -/
def LFr (w wr : World) (f0 X er k f : Int) (fa : Option Addr) (fn' fk : Nat) (fs : List (Int × Int)) (p : Option Addr) (n c : Nat) (ra : Option Addr) (rc : Nat) (pa : Option Addr) (LP pc : Nat) (xa : Option Addr) (m xc : Nat) (ya : Option Addr) (yc : Nat) (gi gp gq g6 gx gy : Nat) (i : Nat) (v : Value) (W : World) : Prop := match i with | 0 => v = .agg #[.int .u8 192, .int .u8 0, .slice pa LP pc] | 1 => v = .agg #[.int .u32 f0, .slice fa fn' fk] | 2 => ∃ b1 e1, v = .agg #[.int .u8 192, .int .u8 0, .slice b1 (fwdB f0 fs).length e1] ∧ Reads W b1 (fwdB f0 fs).length (fwdB f0 fs) | 3 => v = .bool true | 4 => v = .bool true | 5 => v = .agg #[.int .u32 f0, .slice ra fn' rc] | 6 => v = .agg #[.int .u32 f0, .slice fa fn' fk] | 7 => v = .bool true | 8 => v = .bool true | 9 => v = .bool true | 10 => v = .pointer (some ⟨gq, 2, none⟩) | 11 => v = .slice (some ⟨g6, 0, none⟩) n (n + 16) | 12 => v = .pointer (some ⟨w.heap.size + 1, 2, none⟩) | 13 => v = .slice p n c | 14 => v = .bool true | 15 => v = .bool true | 16 => v = .bool true | 17 => v = .int .i64 er | 18 => v = .int .i64 er | 19 => v = .bool true | 20 => v = .bool true | 21 => v = .bool true | 22 => v = .agg #[.int .u32 X, .slice xa m xc] | 23 => v = .agg #[.int .u32 X, .slice ya m yc] | 24 => v = .bool true | 25 => v = .bool true | 26 => v = .bool true | 27 => v = .bool true | 28 => v = .bool true | 29 => v = .bool true | _ => True
theorem LFr_mono {w wr : World} {f0 X er k f : Int} {fa : Option Addr} {fn' fk : Nat} {fs : List (Int × Int)} {p : Option Addr} {n c : Nat} {ra : Option Addr} {rc : Nat} {pa : Option Addr} {LP pc : Nat} {xa : Option Addr} {m xc : Nat} {ya : Option Addr} {yc : Nat} {gi gp gq g6 gx gy : Nat} {W W' : World} (hb : Below W.heap.size W W') (jo : Nat) (xo : Value) (h : LFr w wr f0 X er k f fa fn' fk fs p n c ra rc pa LP pc xa m xc ya yc gi gp gq g6 gx gy jo xo W) : LFr w wr f0 X er k f fa fn' fk fs p n c ra rc pa LP pc xa m xc ya yc gi gp gq g6 gx gy jo xo W' := by
  unfold LFr at h ⊢
  split at h <;> try exact h
  · obtain ⟨b1, e1, e0, h0_0⟩ := h
    exact ⟨b1, e1, e0, h0_0.below hb⟩

set_option maxRecDepth 100000 in
set_option maxHeartbeats 3200000 in
theorem bodiesForward_walk (f0 : Int) (fa : Option Addr) (fn' fk : Nat) (fs : List (Int × Int)) (k f : Int) (p : Option Addr) (n c : Nat) (z : List Int) (w : World) (vf0 : (Lit.int .u32 f0).wf = true) (vfs : Prs w fa fn' fs ∧ fn' ≤ fk) (wk : (Lit.int .u8 k).wf = true) (wf : (Lit.int .u8 f).wf = true) (w0 : IsRow .u8 w p n c z) :
    Calls Try.prog 6 #[.agg #[.int .u32 f0, .slice fa fn' fk], .agg #[.int .u8 k, .int .u8 f, .slice p n c]] w fun e w' => e = .returned (.bool true) ∧ Below w.heap.size w w' := by
  obtain ⟨hr, hbyt, hcap, hmax⟩ := w0.reads
  obtain ⟨lf0, hf0⟩ : 0 ≤ f0 ∧ f0 < 4294967296 := by have := wf_u32_in vf0; omega
  obtain ⟨hfs, hfk⟩ := vfs
  clear w0 wk wf vf0
  generalize z.take n = zs at hr hbyt
  unfold maxLen at hmax
  obtain ⟨wa, hwa⟩ : ∃ wa, w.alloc (.cells #[.int .u32 f0, .slice fa fn' fk] 56) = wa := ⟨_, rfl⟩
  have hba : Below w.heap.size w wa := by rw [← hwa]; exact (Below.refl _ _).alloc (Nat.le_refl _) _
  have hsa : wa.heap.size = w.heap.size + 1 := by rw [← hwa]; simp
  have hXa : Arr wa w.heap.size 56 [.int .u32 f0, .slice fa fn' fk] := by rw [← hwa]; exact arr_new _ _ _
  obtain ⟨wb, hwb⟩ : ∃ wb, wa.alloc (.cells #[.int .u8 k, .int .u8 f, .slice p n c] 28) = wb := ⟨_, rfl⟩
  have hbb : Below wa.heap.size wa wb := by rw [← hwb]; exact chunkBelow _ _ _ _
  have hsb : wb.heap.size = w.heap.size + 2 := by rw [← hwb]; simp; omega
  have hCb : Arr wb (w.heap.size + 1) 28 [.int .u8 k, .int .u8 f, .slice p n c] := by rw [← hwb, ← hsa]; exact chunkBox _ _ _ _
  have hbw := hba.trans (hbb.mono hba.size)
  have hXb := hXa.keep hbb
  have c0 := hCb.cell (i := 0) rfl
  have c1 := hCb.cell (i := 1) rfl
  have c2 := hCb.cell (i := 2) rfl
  have d0 := hXb.cell (i := 0) rfl
  have d1 := hXb.cell (i := 1) rfl
  obtain ⟨lg, hlg⟩ : ∃ lg, lg = decide (8192 < n) := ⟨_, rfl⟩
  have HLA := Lib.hid (large_any k f p n c wb lg hlg)
  have HR0 := Lib.hid (And.intro hr (And.intro hbyt hcap))
  have HFS := Lib.hid hfs
  have H0 := Lib.hid (And.intro hbw (And.intro hXb hCb))
  clear hr hbyt hba hXa hbb hCb hbw hXb hfs
  go_enter Try.func6, Try.ntmps6
  go_wp2_with fail
  refine HLA.out.mono ?_
  rintro e w1 ⟨rfl, hb1⟩
  have HB1 := Lib.hid (H0.out.1.trans (hb1.mono H0.out.1.size))
  have HX1 := Lib.hid (H0.out.2.1.keep hb1)
  have HC1 := Lib.hid (H0.out.2.2.keep hb1)
  clear hb1 H0 HLA c0 c1 c2 d0 d1
  have d0 := HX1.out.cell (i := 0) rfl
  have d1 := HX1.out.cell (i := 1) rfl
  have c0 := HC1.out.cell (i := 0) rfl
  have c1 := HC1.out.cell (i := 1) rfl
  have c2 := HC1.out.cell (i := 2) rfl
  cases lg with
  | true =>
    clear hlg
    go_wp2_with (go_at_call 13; refine (works_any _).mono ?_; rintro e w' ⟨rfl, hb⟩)
    go_ret
    exact ⟨rfl, HB1.out.trans (hb.mono HB1.out.size)⟩
  | false =>
  have hlen : n ≤ 8192 := by simpa using hlg.symm
  clear hlg
  have HM := Lib.hid (manyF_any f0 fa fn' fk w1)
  go_wp2_with fail
  refine HM.out.mono ?_
  rintro e w2 ⟨rfl, hb2⟩
  have HB2 := Lib.hid (HB1.out.trans (hb2.mono HB1.out.size))
  have HX2 := Lib.hid (HX1.out.keep hb2)
  have HC2 := Lib.hid (HC1.out.keep hb2)
  clear hb2 HM HX1 HC1 HB1 c0 c1 c2 d0 d1
  by_cases hmany : 2048 < fn'
  · rw [decide_eq_true hmany]
    have HB1 := HB2
    clear hmany
    go_wp2_with (go_at_call 13; refine (works_any _).mono ?_; rintro e w' ⟨rfl, hb⟩)
    go_ret
    exact ⟨rfl, HB1.out.trans (hb.mono HB1.out.size)⟩
  rw [decide_eq_false hmany]
  have hfn : fn' ≤ 2048 := by omega
  clear hmany
  have hbV : Below w2.heap.size w2 (w2.alloc (.cells #[.int .u32 f0, .slice none 0 0] 56)) := (Below.refl _ _).alloc (Nat.le_refl _) _
  have hAV : Arr (w2.alloc (.cells #[.int .u32 f0, .slice none 0 0] 56)) w2.heap.size 56 [.int .u32 f0, .slice none 0 0] := arr_new _ _ _
  have hbV' := HB2.out.trans (hbV.mono HB2.out.size)
  obtain ⟨ra, rc, w3, hrun, H3⟩ := appendPairs (T := 100) (ST := 54) Try.infoSkip Try.underlying54 (w := (w2.alloc (.cells #[.int .u32 f0, .slice none 0 0] 56))) (base := (w2.alloc (.cells #[.int .u32 f0, .slice none 0 0] 56)).heap.size) (Nat.le_refl _) fa fn' fk fs (HFS.out.below hbV' (Nat.le_refl _)) (by omega)
  have HRUN := Lib.hid hrun
  have hA3 := grown_none_arr H3.out.2 hAV
  have hb3 := hbV.trans ((grown_none_below H3.out.2).mono hbV.size)
  have hsV : (w2.alloc (.cells #[.int .u32 f0, .slice none 0 0] 56)).heap.size = w2.heap.size + 1 := by simp
  obtain ⟨w4, hw4⟩ : ∃ w4, w3.setCell ⟨w2.heap.size, 1, none⟩ (.slice ra fn' rc) = w4 := ⟨_, rfl⟩
  have hA4 : Arr w4 w2.heap.size 56 [.int .u32 f0, .slice ra fn' rc] := by rw [← hw4]; exact hA3.set 1 _
  have hb4 : Below w2.heap.size w2 w4 := by rw [← hw4]; exact hb3.setCell (p := ⟨w2.heap.size, 1, none⟩) (Nat.le_refl _) _
  have hR4 : RowP 100 (w2.heap.size + 1) w4 ra fn' rc fs := by rw [← hw4, ← hsV]; exact RowP.setAt H3.out.1 (by rw [hsV]; omega) 1 _
  have hin : ∀ q ∈ fs, InP q := HFS.out.2.1
  have hP4 := RowP.prs hR4 hin
  have fr := hA3.free 1
  have y1 := hA3.cell (i := 1) rfl
  have e0 := hA4.cell (i := 0) rfl
  have e1 := hA4.cell (i := 1) rfl
  have dv0 := (HX2.out.below hbV (by have := HX2.out.lt; omega)).cell (i := 0) rfl
  have dv1 := (HX2.out.below hbV (by have := HX2.out.lt; omega)).cell (i := 1) rfl
  have d0 := HX2.out.cell (i := 0) rfl
  have d1 := HX2.out.cell (i := 1) rfl
  have HPU := Lib.hid (pputForward f0 ra fn' rc fs w4 hP4 (by omega) lf0 hf0)
  have H4 := Lib.hid (And.intro hA4 (And.intro hb4 hP4))
  clear hbV hAV hbV' hrun hA3 hb3 hsV hA4 hb4 hR4 hP4 hin H3
  go_wp2_with (at_builtin; refine wpList_append_run rfl _ _ _ rfl _ _ _ _ rfl rfl HRUN.out ?_)
  refine HPU.out.mono ?_
  rintro e w5 ⟨pa, pc, rfl, hb5, hr5⟩
  obtain ⟨LP, hLP⟩ : ∃ LP, LP = (fwdB f0 fs).length := ⟨_, rfl⟩
  rw [← hLP] at hr5 ⊢
  obtain ⟨w6, hw6⟩ : ∃ w6, w5.alloc (.cells #[.int .u8 192, .int .u8 0, .slice pa LP pc] 28) = w6 := ⟨_, rfl⟩
  have hb6 : Below w5.heap.size w5 w6 := by rw [← hw6]; exact chunkBelow _ _ _ _
  have hA6 : Arr w6 w5.heap.size 28 [.int .u8 192, .int .u8 0, .slice pa LP pc] := by rw [← hw6]; exact chunkBox _ _ _ _
  have hb46 := hb5.trans (hb6.mono hb5.size)
  have hb26 := H4.out.2.1.trans (hb46.mono H4.out.2.1.size)
  have HLP := Lib.hid (show LP ≤ 100000 by rw [hLP, fwdB_len, HFS.out.1]; omega)
  have HB6 := Lib.hid (HB2.out.trans (hb26.mono HB2.out.size))
  have HP6 := Lib.hid (And.intro hA6 (hr5.reads.below hb6))
  have HI6 := Lib.hid (And.intro (H4.out.1.keep hb46) (H4.out.2.2.below hb46 (Nat.le_refl _)))
  have HX6 := Lib.hid (HX2.out.keep hb26)
  have HC6 := Lib.hid (HC2.out.keep hb26)
  have HR6 := Lib.hid (HR0.out.1.below HB6.out)
  clear hb5 hr5 hb6 hA6 hb46 hb26 hLP HPU H4 HX2 HC2 HB2 fr y1 e0 e1 d0 d1 dv0 dv1 hw4
  generalize hgi : w2.heap.size = gi at *
  clear hgi
  have c0 := HC6.out.cell (i := 0) rfl
  have c1 := HC6.out.cell (i := 1) rfl
  have c2 := HC6.out.cell (i := 2) rfl
  go_wp2_with fail
  generalize hgp : w5.heap.size = gp at *
  clear c0 c1 c2 hgp
  refine wp_region_any (by kernel_rfl) ?_
  refine Vals.wpAny_goodLast (LFq w w6 k f p n c zs) (fun W => Below w6.heap.size w6 W) [some 31, some 32, some 33, some 34, some 35, some 36, some 37, some 38, some 7, none] 9 78 _ _ rfl (by kernel_rfl) (by kernel_rfl) (by kernel_rfl) (by decide) rfl ?step ?fin (Below.refl _ _).drew
  case step =>
    intro i o d ho hd hiN a W hJ hdf hdep hfr K hK
    match i, ho, hd with
    | 0, ho, hd =>
      have ho' := ho
      simp only [List.getElem?_toArray, List.getElem?_cons_zero, Option.some.injEq] at ho hd
      subst ho hd
      have r3 : a.eval (.tmp 3) = .pointer (some ⟨w.heap.size + 1, 0, none⟩) := hfr 3 (by decide)
      rw [Vals.eval_tmp] at r3
      refine Vals.wpOp_run ho' rfl ?_
      clear hdep hfr ho' hdf
      go_simp
      exact hK _ _ (fun _ _ h => h) hJ (fun _ => rfl)
    | 1, ho, hd =>
      have ho' := ho
      simp only [List.getElem?_toArray, List.getElem?_cons_zero, List.getElem?_cons_succ, Option.some.injEq] at ho hd
      subst ho hd
      have r31 : a.eval (.tmp 31) = .pointer (some ⟨w.heap.size + 1, 0, none⟩) := hdep ⟨0, .data⟩ (by simp) rfl 31 rfl
      rw [Vals.eval_tmp] at r31
      have c0 := (HC6.out.keep hJ).cell (i := 0) rfl
      refine Vals.wpOp_run ho' rfl ?_
      clear hdep hfr ho' hdf
      go_simp
      exact hK _ _ (fun _ _ h => h) hJ (fun _ => rfl)
    | 2, ho, hd =>
      have ho' := ho
      simp only [List.getElem?_toArray, List.getElem?_cons_zero, List.getElem?_cons_succ, Option.some.injEq] at ho hd
      subst ho hd
      have r3 : a.eval (.tmp 3) = .pointer (some ⟨w.heap.size + 1, 0, none⟩) := hfr 3 (by decide)
      rw [Vals.eval_tmp] at r3
      refine Vals.wpOp_run ho' rfl ?_
      clear hdep hfr ho' hdf
      go_simp
      exact hK _ _ (fun _ _ h => h) hJ (fun _ => rfl)
    | 3, ho, hd =>
      have ho' := ho
      simp only [List.getElem?_toArray, List.getElem?_cons_zero, List.getElem?_cons_succ, Option.some.injEq] at ho hd
      subst ho hd
      have r33 : a.eval (.tmp 33) = .pointer (some ⟨w.heap.size + 1, 1, none⟩) := hdep ⟨2, .data⟩ (by simp) rfl 33 rfl
      rw [Vals.eval_tmp] at r33
      have c0 := (HC6.out.keep hJ).cell (i := 1) rfl
      refine Vals.wpOp_run ho' rfl ?_
      clear hdep hfr ho' hdf
      go_simp
      exact hK _ _ (fun _ _ h => h) hJ (fun _ => rfl)
    | 4, ho, hd =>
      have ho' := ho
      simp only [List.getElem?_toArray, List.getElem?_cons_zero, List.getElem?_cons_succ, Option.some.injEq] at ho hd
      subst ho hd
      have r3 : a.eval (.tmp 3) = .pointer (some ⟨w.heap.size + 1, 0, none⟩) := hfr 3 (by decide)
      rw [Vals.eval_tmp] at r3
      refine Vals.wpOp_run ho' rfl ?_
      clear hdep hfr ho' hdf
      go_simp
      exact hK _ _ (fun _ _ h => h) hJ (fun _ => rfl)
    | 5, ho, hd =>
      have ho' := ho
      simp only [List.getElem?_toArray, List.getElem?_cons_zero, List.getElem?_cons_succ, Option.some.injEq] at ho hd
      subst ho hd
      have r35 : a.eval (.tmp 35) = .pointer (some ⟨w.heap.size + 1, 2, none⟩) := hdep ⟨4, .data⟩ (by simp) rfl 35 rfl
      rw [Vals.eval_tmp] at r35
      have c0 := (HC6.out.keep hJ).cell (i := 2) rfl
      refine Vals.wpOp_run ho' rfl ?_
      clear hdep hfr ho' hdf
      go_simp
      exact hK _ _ (fun _ _ h => h) hJ (fun _ => rfl)
    | 6, ho, hd =>
      have ho' := ho
      simp only [List.getElem?_toArray, List.getElem?_cons_zero, List.getElem?_cons_succ, Option.some.injEq] at ho hd
      subst ho hd
      have r36 : a.eval (.tmp 36) = .slice p n c := hdep ⟨5, .data⟩ (by simp) rfl 36 rfl
      rw [Vals.eval_tmp] at r36
      refine Vals.wpOp_run ho' rfl ?_
      clear hdep hfr ho' hdf
      go_simp
      refine (roomy_any p n c zs W (HR6.out.below hJ) (by omega)).mono ?_
      rintro e w' ⟨rfl, hb3, hk3⟩
      exact hK _ _ (LFq_mono hb3) (hJ.trans (hb3.mono hJ.size)) (fun _ => ⟨_, rfl, hJ.size, hk3⟩)
    | 7, ho, hd =>
      have ho' := ho
      simp only [List.getElem?_toArray, List.getElem?_cons_zero, List.getElem?_cons_succ, Option.some.injEq] at ho hd
      subst ho hd
      have r32 : a.eval (.tmp 32) = .int .u8 k := hdep ⟨1, .data⟩ (by simp) rfl 32 rfl
      rw [Vals.eval_tmp] at r32
      have r34 : a.eval (.tmp 34) = .int .u8 f := hdep ⟨3, .data⟩ (by simp) rfl 34 rfl
      rw [Vals.eval_tmp] at r34
      have g37 : ∃ gr_37, a.eval (.tmp 37) = .slice (some ⟨gr_37, 0, none⟩) n (n + 16) ∧ w6.heap.size ≤ gr_37 ∧ Blk W gr_37 (zs ++ List.replicate 16 90) := hdep ⟨6, .data⟩ (by simp) rfl 37 rfl
      rw [Vals.eval_tmp] at g37
      obtain ⟨gr_37, r37, h37_0, h37_1⟩ := g37
      refine Vals.wpOp_run ho' rfl ?_
      clear hdep hfr ho' hdf
      go_simp
      exact hK _ _ (fun _ _ h => h) hJ (fun _ => ⟨_, rfl, h37_0, h37_1⟩)
    | 8, ho, hd =>
      have ho' := ho
      simp only [List.getElem?_toArray, List.getElem?_cons_zero, List.getElem?_cons_succ, Option.some.injEq] at ho hd
      subst ho hd
      refine Vals.wpOp_run ho' rfl ?_
      clear hdep hfr ho' hdf
      go_simp
      have hb3 : Below W.heap.size W (W.alloc (.cells #[.int .u8 0, .int .u8 0, .slice none 0 0] 28)) := (Below.refl _ _).alloc (Nat.le_refl _) _
      exact hK _ _ (LFq_mono hb3) (hJ.trans (hb3.mono hJ.size)) (fun _ => ⟨_, rfl, hJ.size, arr_new _ _ _⟩)
    | i + 9, ho, hd => omega
  case fin =>
    intro W fq hJ hG
    have q0 : fq 31 = .pointer (some ⟨w.heap.size + 1, 0, none⟩) := hG 0 31 rfl
    have q1 : fq 32 = .int .u8 k := hG 1 32 rfl
    have q2 : fq 33 = .pointer (some ⟨w.heap.size + 1, 1, none⟩) := hG 2 33 rfl
    have q3 : fq 34 = .int .u8 f := hG 3 34 rfl
    have q4 : fq 35 = .pointer (some ⟨w.heap.size + 1, 2, none⟩) := hG 4 35 rfl
    have q5 : fq 36 = .slice p n c := hG 5 36 rfl
    obtain ⟨gr_37, q6, hq37_0, hq37_1⟩ : ∃ gr_37, fq 37 = .slice (some ⟨gr_37, 0, none⟩) n (n + 16) ∧ w6.heap.size ≤ gr_37 ∧ Blk W gr_37 (zs ++ List.replicate 16 90) := hG 6 37 rfl
    obtain ⟨gr_38, q7, hq38_0, hq38_1⟩ : ∃ gr_38, fq 38 = .agg #[.int .u8 k, .int .u8 f, .slice (some ⟨gr_38, 0, none⟩) n (n + 16)] ∧ w6.heap.size ≤ gr_38 ∧ Blk W gr_38 (zs ++ List.replicate 16 90) := hG 7 38 rfl
    obtain ⟨gn_7, q8, hq7_0, hq7_1⟩ : ∃ gn_7, fq 7 = .pointer (some ⟨gn_7, 0, none⟩) ∧ w6.heap.size ≤ gn_7 ∧ Arr W gn_7 28 [.int .u8 0, .int .u8 0, .slice none 0 0] := hG 8 7 rfl
    clear hG
    refine Vals.wpOp_run rfl rfl ?_
    simp only [Vals.puts, Vals.pairs, List.filterMap_cons, List.filterMap_nil, id, List.map_cons, List.map_nil, List.foldl_cons, List.foldl_nil, q0, q1, q2, q3, q4, q5, q6, q7, q8]
    clear q0 q1 q2 q3 q4 q5 q6 q7 q8
    go_frame
    obtain ⟨W4, hW4⟩ : ∃ x, (((W.setCell ⟨gn_7, 0, none⟩ (.int .u8 k)).setCell ⟨gn_7, 1, none⟩ (.int .u8 f)).setCell ⟨gn_7, 2, none⟩ (.slice (some ⟨gr_38, 0, none⟩) n (n + 16))) = x := ⟨_, rfl⟩
    have hA4 : Arr _ gn_7 28 [.int .u8 k, .int .u8 f, .slice (some ⟨gr_38, 0, none⟩) n (n + 16)] := (((hq7_1.set 0 (.int .u8 k)).set 1 (.int .u8 f)).set 2 (.slice (some ⟨gr_38, 0, none⟩) n (n + 16)))
    have hB4 := ((((hJ : Below w6.heap.size w6 W).setCell (p := ⟨gn_7, 0, none⟩) hq7_0 (.int .u8 k)).setCell (p := ⟨gn_7, 1, none⟩) hq7_0 (.int .u8 f)).setCell (p := ⟨gn_7, 2, none⟩) hq7_0 (.slice (some ⟨gr_38, 0, none⟩) n (n + 16)))
    rw [hW4] at hA4 hB4
    have hne := hq38_1.ne_arr hq7_1
    have hk4 : Blk _ gr_38 (zs ++ List.replicate 16 90) := (Below.heap_setCell _ ⟨gn_7, 2, none⟩ (.slice (some ⟨gr_38, 0, none⟩) n (n + 16)) _ (by simpa using hne)).trans ((Below.heap_setCell _ ⟨gn_7, 1, none⟩ (.int .u8 f) _ (by simpa using hne)).trans ((Below.heap_setCell W ⟨gn_7, 0, none⟩ (.int .u8 k) _ (by simpa using hne)).trans hq38_1))
    rw [hW4] at hk4
    have fr0 := hq7_1.free 0
    have fr1 := hq7_1.free 1
    have fr2 := hq7_1.free 2
    have y0 := hq7_1.cell (i := 0) rfl
    have y1 := hq7_1.cell (i := 1) rfl
    have y2 := hq7_1.cell (i := 2) rfl
    have HG7 := Lib.hid (And.intro hA4 (And.intro hB4 hk4))
    clear hA4 hB4 hk4 hne hJ hq7_0 hq7_1 hq37_0 hq37_1 hq38_0 hq38_1
    go_simp
    clear fr0 fr1 fr2 y0 y1 y2 hW4
    generalize gn_7 = gq at *
    generalize gr_38 = g6 at *
    generalize W4 = w7 at *
    have hin7 : Reads w7 (some ⟨g6, 0, none⟩) n zs := roomy_in HG7.out.2.2 HR0.out.1.1
    have HB7 := Lib.hid (HB6.out.trans (HG7.out.2.1.mono HB6.out.size))
    have HGE := Lib.hid (pgetForward k f (some ⟨g6, 0, none⟩) n (n + 16) zs w7 hin7 HR0.out.2.1 (by omega) (by omega))
    clear hin7
    have c0 := HG7.out.1.cell (i := 0) rfl
    have c1 := HG7.out.1.cell (i := 1) rfl
    have c2 := HG7.out.1.cell (i := 2) rfl
    go_wp2_with fail
    refine HGE.out.mono ?_
    rintro e w8 hgot
    obtain ⟨xa, xc, rfl, hb8, hxp⟩ := hgot.any
    obtain ⟨X, hX⟩ : ∃ X, X = (if okFwd k f zs = true then natAt zs 0 4 else 0) := ⟨_, rfl⟩
    obtain ⟨er, her⟩ : ∃ er : Int, er = (if okFwd k f zs = true then 0 else 7) := ⟨_, rfl⟩
    obtain ⟨qs, hqs⟩ : ∃ qs, qs = (if okFwd k f zs = true then pairsAt zs 4 ((zs.length - 4 + 3) / 4) else []) := ⟨_, rfl⟩
    rw [← hqs] at hxp
    rw [← hX, ← her, ← hqs]
    obtain ⟨m, hm⟩ : ∃ m, m = qs.length := ⟨_, rfl⟩
    rw [← hm] at hxp ⊢
    have HMM := Lib.hid (show m ≤ 10000 by rw [hm, hqs]; have := HR0.out.1.1; split; (rw [pairsAt_len]; omega); simp)
    have HEQ := Lib.hid (And.intro hX (And.intro her (And.intro hqs hm)))
    have hbx : Below w8.heap.size w8 (w8.alloc (.cells #[.int .u32 X, .slice xa m xc] 56)) := (Below.refl _ _).alloc (Nat.le_refl _) _
    have hAx : Arr (w8.alloc (.cells #[.int .u32 X, .slice xa m xc] 56)) w8.heap.size 56 [.int .u32 X, .slice xa m xc] := arr_new _ _ _
    have hb79 := hb8.trans (hbx.mono hb8.size)
    have HB9 := Lib.hid (HB7.out.trans (hb79.mono HB7.out.size))
    have hC9 := HC6.out.keep (HG7.out.2.1.trans (hb79.mono HG7.out.2.1.size))
    clear c0 c1 c2
    have c0 := hC9.cell (i := 0) rfl
    have c1 := hC9.cell (i := 1) rfl
    have c2 := hC9.cell (i := 2) rfl
    have HGR := Lib.hid (rgetForward k f p n c zs (w8.alloc (.cells #[.int .u32 X, .slice xa m xc] 56)) (HR0.out.1.below HB9.out) HR0.out.2.1 HR0.out.2.2 (by omega))
    have HXP0 := Lib.hid (And.intro hAx (hxp.below hbx (Nat.le_refl _)))
    have HG9 := Lib.hid (And.intro (HG7.out.1.keep hb79) (And.intro (HG7.out.2.1.trans (hb79.mono HG7.out.2.1.size)) (HG7.out.2.2.below hb79)))
    clear hgot hxp hX her hqs hm hbx hAx hb79 hC9 hb8 HGE HG7 HB7
    go_wp2_with fail
    refine HGR.out.mono ?_
    rintro e w10 hgot
    obtain ⟨ya, yc, rfl, hb10, hyp⟩ := hgot.any
    rw [← HEQ.out.2.2.1] at hyp
    rw [← HEQ.out.1, ← HEQ.out.2.1, ← HEQ.out.2.2.1, ← HEQ.out.2.2.2]
    rw [← HEQ.out.2.2.2] at hyp
    have hby : Below w10.heap.size w10 (w10.alloc (.cells #[.int .u32 X, .slice ya m yc] 56)) := (Below.refl _ _).alloc (Nat.le_refl _) _
    have hAy : Arr (w10.alloc (.cells #[.int .u32 X, .slice ya m yc] 56)) w10.heap.size 56 [.int .u32 X, .slice ya m yc] := arr_new _ _ _
    have hb11 := hb10.trans (hby.mono hb10.size)
    have h6 := HG9.out.2.1.trans (hb11.mono HG9.out.2.1.size)
    have HBI := Lib.hid (HB9.out.trans (hb11.mono HB9.out.size))
    have HF9 := Lib.hid (HX6.out.keep h6)
    have HC9 := Lib.hid (HC6.out.keep h6)
    have HI9 := Lib.hid (HI6.out.1.keep h6)
    have HIN := Lib.hid (HI6.out.2.below h6 (Nat.le_refl _))
    have HP9 := Lib.hid (HP6.out.1.keep h6)
    have HPB := Lib.hid (HP6.out.2.below h6)
    have HQ9 := Lib.hid (HG9.out.1.keep hb11)
    have HQ := Lib.hid (HG9.out.2.2.below hb11)
    have HX9 := Lib.hid (HXP0.out.1.keep hb11)
    have HXP := Lib.hid (HXP0.out.2.below hb11 (Nat.le_refl _))
    have HY9 := Lib.hid hAy
    have HYP := Lib.hid (hyp.below hby (Nat.le_refl _))
    clear hgot hyp hby hAy hb11 h6 hb10 HGR HXP0 HG9 HB9 HP6 HI6 HX6 HC6 HR6 HB6 c0 c1 c2
    go_wp2_with fail
    generalize (w10.alloc (.cells #[.int .u32 X, .slice ya m yc] 56)) = wr at HBI HF9 HC9 HI9 HIN HP9 HPB HQ9 HQ HX9 HXP HY9 HYP ⊢
    generalize w10.heap.size = gy at *
    generalize w8.heap.size = gx at *
    refine wp_region_any (by kernel_rfl) ?_
    refine Vals.wpAny_goodW (LFr w wr f0 X er k f fa fn' fk fs p n c ra rc pa LP pc xa m xc ya yc gi gp gq g6 gx gy) (fun _ => (fun W => Below wr.heap.size wr W)) [some 49, some 50, some 51, some 52, some 53, some 54, some 55, some 56, some 57, some 58, some 59, some 60, some 61, some 62, some 63, some 64, some 65, some 66, some 67, some 68, some 69, some 70, some 71, some 72, some 73, some 74, some 75, some 76, some 77, some 4] 78 _ _ rfl (by kernel_rfl) (by kernel_rfl) (by decide) ?step9 ?fin9 (Below.refl _ _).drew
    case step9 =>
      intro i o d ho hd listed a W hls hun hcl hJ hdf hdep hfr K hK
      match i, ho, hd with
      | 0, ho, hd =>
        have ho' := ho
        simp only [List.getElem?_toArray, List.getElem?_cons_zero, Option.some.injEq] at ho hd
        subst ho hd
        have r6 : a.eval (.tmp 6) = .pointer (some ⟨gp, 0, none⟩) := hfr 6 (by decide)
        rw [Vals.eval_tmp] at r6
        have c0 := (HP9.out.keep hJ).cell (i := 0) rfl
        have c1 := (HP9.out.keep hJ).cell (i := 1) rfl
        have c2 := (HP9.out.keep hJ).cell (i := 2) rfl
        refine Vals.wpOp_run ho' rfl ?_
        clear hdep hfr ho' hdf hcl
        go_simp
        exact hK _ _ (fun _ _ h => h) hJ (fun _ => rfl)
      | 1, ho, hd =>
        have ho' := ho
        simp only [List.getElem?_toArray, List.getElem?_cons_zero, List.getElem?_cons_succ, Option.some.injEq] at ho hd
        subst ho hd
        have r2 : a.eval (.tmp 2) = .pointer (some ⟨w.heap.size, 0, none⟩) := hfr 2 (by decide)
        rw [Vals.eval_tmp] at r2
        have c0 := (HF9.out.keep hJ).cell (i := 0) rfl
        have c1 := (HF9.out.keep hJ).cell (i := 1) rfl
        refine Vals.wpOp_run ho' rfl ?_
        clear hdep hfr ho' hdf hcl
        go_simp
        exact hK _ _ (fun _ _ h => h) hJ (fun _ => rfl)
      | 2, ho, hd =>
        have ho' := ho
        simp only [List.getElem?_toArray, List.getElem?_cons_zero, List.getElem?_cons_succ, Option.some.injEq] at ho hd
        subst ho hd
        have r50 : a.eval (.tmp 50) = .agg #[.int .u32 f0, .slice fa fn' fk] := (hdep ⟨1, .data⟩ (by simp) rfl).2 50 rfl
        rw [Vals.eval_tmp] at r50
        refine Vals.wpOp_run ho' rfl ?_
        clear hdep hfr ho' hdf hcl
        go_simp
        refine (rputForward f0 fa fn' fk fs W (HFS.out.below (HBI.out.trans (hJ.mono HBI.out.size)) (Nat.le_refl _)) (by omega) lf0 hf0).mono ?_
        rintro e w' ⟨b1, e1, rfl, hb3, hr3⟩
        exact hK _ _ (LFr_mono hb3) (hJ.trans (hb3.mono hJ.size)) (fun _ => ⟨_, _, rfl, hr3.reads⟩)
      | 3, ho, hd =>
        have ho' := ho
        simp only [List.getElem?_toArray, List.getElem?_cons_zero, List.getElem?_cons_succ, Option.some.injEq] at ho hd
        subst ho hd
        have r49 : a.eval (.tmp 49) = .agg #[.int .u8 192, .int .u8 0, .slice pa LP pc] := (hdep ⟨0, .data⟩ (by simp) rfl).2 49 rfl
        rw [Vals.eval_tmp] at r49
        have g51 : ∃ b1_51 e1_51, a.eval (.tmp 51) = .agg #[.int .u8 192, .int .u8 0, .slice b1_51 (fwdB f0 fs).length e1_51] ∧ Reads W b1_51 (fwdB f0 fs).length (fwdB f0 fs) := (hdep ⟨2, .data⟩ (by simp) rfl).2 51 rfl
        rw [Vals.eval_tmp] at g51
        obtain ⟨b1_51, e1_51, r51, h51_0⟩ := g51
        refine Vals.wpOp_run ho' rfl ?_
        clear hdep hfr ho' hdf hcl
        go_simp
        refine (rsame_yes 192 0 pa b1_51 LP _ pc e1_51 (fwdB f0 fs) W (HPB.out.below hJ) h51_0 (fwdB_byt _ _) (by have := HLP.out; omega)).mono ?_
        rintro e w' ⟨rfl, hb3⟩
        exact hK _ _ (LFr_mono hb3) (hJ.trans (hb3.mono hJ.size)) (fun _ => rfl)
      | 4, ho, hd =>
        have ho' := ho
        simp only [List.getElem?_toArray, List.getElem?_cons_zero, List.getElem?_cons_succ, Option.some.injEq] at ho hd
        subst ho hd
        have r52 : a.eval (.tmp 52) = .bool true := (hdep ⟨3, .data⟩ (by simp) rfl).2 52 rfl
        rw [Vals.eval_tmp] at r52
        refine Vals.wpOp_run ho' rfl ?_
        clear hdep hfr ho' hdf hcl
        go_simp
        exact hK _ _ (fun _ _ h => h) hJ (fun _ => rfl)
      | 5, ho, hd =>
        have ho' := ho
        simp only [List.getElem?_toArray, List.getElem?_cons_zero, List.getElem?_cons_succ, Option.some.injEq] at ho hd
        subst ho hd
        have hgd : a.eval (.tmp 53) = .bool true := (hdep ⟨4, .guard⟩ (by simp) rfl).2 53 rfl
        have r5 : a.eval (.tmp 5) = .pointer (some ⟨gi, 0, none⟩) := hfr 5 (by decide)
        rw [Vals.eval_tmp] at r5
        have c0 := (HI9.out.keep hJ).cell (i := 0) rfl
        have c1 := (HI9.out.keep hJ).cell (i := 1) rfl
        refine Vals.wpOp_run ho' (by unfold Region.wanted; simp only []; rw [Vals.yielded_of (d := 53) rfl hgd]; rfl) ?_
        clear hdep hfr ho' hdf hgd hcl
        go_simp
        exact hK _ _ (fun _ _ h => h) hJ (fun _ => rfl)
      | 6, ho, hd =>
        have ho' := ho
        simp only [List.getElem?_toArray, List.getElem?_cons_zero, List.getElem?_cons_succ, Option.some.injEq] at ho hd
        subst ho hd
        have hgd : a.eval (.tmp 53) = .bool true := (hdep ⟨4, .guard⟩ (by simp) rfl).2 53 rfl
        have r2 : a.eval (.tmp 2) = .pointer (some ⟨w.heap.size, 0, none⟩) := hfr 2 (by decide)
        rw [Vals.eval_tmp] at r2
        have c0 := (HF9.out.keep hJ).cell (i := 0) rfl
        have c1 := (HF9.out.keep hJ).cell (i := 1) rfl
        refine Vals.wpOp_run ho' (by unfold Region.wanted; simp only []; rw [Vals.yielded_of (d := 53) rfl hgd]; rfl) ?_
        clear hdep hfr ho' hdf hgd hcl
        go_simp
        exact hK _ _ (fun _ _ h => h) hJ (fun _ => rfl)
      | 7, ho, hd =>
        have ho' := ho
        simp only [List.getElem?_toArray, List.getElem?_cons_zero, List.getElem?_cons_succ, Option.some.injEq] at ho hd
        subst ho hd
        have hgd : a.eval (.tmp 53) = .bool true := (hdep ⟨4, .guard⟩ (by simp) rfl).2 53 rfl
        have r54 : a.eval (.tmp 54) = .agg #[.int .u32 f0, .slice ra fn' rc] := (hdep ⟨5, .data⟩ (by simp) rfl).2 54 rfl
        rw [Vals.eval_tmp] at r54
        have r55 : a.eval (.tmp 55) = .agg #[.int .u32 f0, .slice fa fn' fk] := (hdep ⟨6, .data⟩ (by simp) rfl).2 55 rfl
        rw [Vals.eval_tmp] at r55
        refine Vals.wpOp_run ho' (by unfold Region.wanted; simp only []; rw [Vals.yielded_of (d := 53) rfl hgd]; rfl) ?_
        clear hdep hfr ho' hdf hgd hcl
        go_simp
        refine (sameForward_yes f0 ra fa fn' rc fk fs W (HIN.out.below hJ (Nat.le_refl _)) (HFS.out.below (HBI.out.trans (hJ.mono HBI.out.size)) (Nat.le_refl _)) (by omega)).mono ?_
        rintro e w' ⟨rfl, hb3⟩
        exact hK _ _ (LFr_mono hb3) (hJ.trans (hb3.mono hJ.size)) (fun _ => rfl)
      | 8, ho, hd =>
        have ho' := ho
        simp only [List.getElem?_toArray, List.getElem?_cons_zero, List.getElem?_cons_succ, Option.some.injEq] at ho hd
        subst ho hd
        have r53 : a.eval (.tmp 53) = .bool true := (hdep ⟨4, .data⟩ (by simp) rfl).2 53 rfl
        rw [Vals.eval_tmp] at r53
        have r56 : a.eval (.tmp 56) = .bool true := (hdep ⟨7, .data⟩ (by simp) rfl).2 56 rfl
        rw [Vals.eval_tmp] at r56
        refine Vals.wpOp_run ho' rfl ?_
        clear hdep hfr ho' hdf hcl
        go_simp
        exact hK _ _ (fun _ _ h => h) hJ (fun _ => rfl)
      | 9, ho, hd =>
        have ho' := ho
        simp only [List.getElem?_toArray, List.getElem?_cons_zero, List.getElem?_cons_succ, Option.some.injEq] at ho hd
        subst ho hd
        have r57 : a.eval (.tmp 57) = .bool true := (hdep ⟨8, .data⟩ (by simp) rfl).2 57 rfl
        rw [Vals.eval_tmp] at r57
        refine Vals.wpOp_run ho' rfl ?_
        clear hdep hfr ho' hdf hcl
        go_simp
        exact hK _ _ (fun _ _ h => h) hJ (fun _ => rfl)
      | 10, ho, hd =>
        have ho' := ho
        simp only [List.getElem?_toArray, List.getElem?_cons_zero, List.getElem?_cons_succ, Option.some.injEq] at ho hd
        subst ho hd
        have hgd : a.eval (.tmp 58) = .bool true := (hdep ⟨9, .guard⟩ (by simp) rfl).2 58 rfl
        have r7 : a.eval (.tmp 7) = .pointer (some ⟨gq, 0, none⟩) := hfr 7 (by decide)
        rw [Vals.eval_tmp] at r7
        refine Vals.wpOp_run ho' (by unfold Region.wanted; simp only []; rw [Vals.yielded_of (d := 58) rfl hgd]; rfl) ?_
        clear hdep hfr ho' hdf hgd hcl
        go_simp
        exact hK _ _ (fun _ _ h => h) hJ (fun _ => rfl)
      | 11, ho, hd =>
        have ho' := ho
        simp only [List.getElem?_toArray, List.getElem?_cons_zero, List.getElem?_cons_succ, Option.some.injEq] at ho hd
        subst ho hd
        have hgd : a.eval (.tmp 58) = .bool true := (hdep ⟨9, .guard⟩ (by simp) rfl).2 58 rfl
        have r59 : a.eval (.tmp 59) = .pointer (some ⟨gq, 2, none⟩) := (hdep ⟨10, .data⟩ (by simp) rfl).2 59 rfl
        rw [Vals.eval_tmp] at r59
        have c0 := (HQ9.out.keep hJ).cell (i := 2) rfl
        refine Vals.wpOp_run ho' (by unfold Region.wanted; simp only []; rw [Vals.yielded_of (d := 58) rfl hgd]; rfl) ?_
        clear hdep hfr ho' hdf hgd hcl
        go_simp
        exact hK _ _ (fun _ _ h => h) hJ (fun _ => rfl)
      | 12, ho, hd =>
        have ho' := ho
        simp only [List.getElem?_toArray, List.getElem?_cons_zero, List.getElem?_cons_succ, Option.some.injEq] at ho hd
        subst ho hd
        have hgd : a.eval (.tmp 58) = .bool true := (hdep ⟨9, .guard⟩ (by simp) rfl).2 58 rfl
        have r3 : a.eval (.tmp 3) = .pointer (some ⟨w.heap.size + 1, 0, none⟩) := hfr 3 (by decide)
        rw [Vals.eval_tmp] at r3
        refine Vals.wpOp_run ho' (by unfold Region.wanted; simp only []; rw [Vals.yielded_of (d := 58) rfl hgd]; rfl) ?_
        clear hdep hfr ho' hdf hgd hcl
        go_simp
        exact hK _ _ (fun _ _ h => h) hJ (fun _ => rfl)
      | 13, ho, hd =>
        have ho' := ho
        simp only [List.getElem?_toArray, List.getElem?_cons_zero, List.getElem?_cons_succ, Option.some.injEq] at ho hd
        subst ho hd
        have hgd : a.eval (.tmp 58) = .bool true := (hdep ⟨9, .guard⟩ (by simp) rfl).2 58 rfl
        have r61 : a.eval (.tmp 61) = .pointer (some ⟨w.heap.size + 1, 2, none⟩) := (hdep ⟨12, .data⟩ (by simp) rfl).2 61 rfl
        rw [Vals.eval_tmp] at r61
        have c0 := (HC9.out.keep hJ).cell (i := 2) rfl
        refine Vals.wpOp_run ho' (by unfold Region.wanted; simp only []; rw [Vals.yielded_of (d := 58) rfl hgd]; rfl) ?_
        clear hdep hfr ho' hdf hgd hcl
        go_simp
        exact hK _ _ (fun _ _ h => h) hJ (fun _ => rfl)
      | 14, ho, hd =>
        have ho' := ho
        simp only [List.getElem?_toArray, List.getElem?_cons_zero, List.getElem?_cons_succ, Option.some.injEq] at ho hd
        subst ho hd
        have hgd : a.eval (.tmp 58) = .bool true := (hdep ⟨9, .guard⟩ (by simp) rfl).2 58 rfl
        have r60 : a.eval (.tmp 60) = .slice (some ⟨g6, 0, none⟩) n (n + 16) := (hdep ⟨11, .data⟩ (by simp) rfl).2 60 rfl
        rw [Vals.eval_tmp] at r60
        have r62 : a.eval (.tmp 62) = .slice p n c := (hdep ⟨13, .data⟩ (by simp) rfl).2 62 rfl
        rw [Vals.eval_tmp] at r62
        refine Vals.wpOp_run ho' (by unfold Region.wanted; simp only []; rw [Vals.yielded_of (d := 58) rfl hgd]; rfl) ?_
        clear hdep hfr ho' hdf hgd hcl
        go_simp
        refine (kept_yes p g6 n c zs W (HQ.out.below hJ) (HR0.out.1.below (HBI.out.trans (hJ.mono HBI.out.size))) HR0.out.2.1 (by omega)).mono ?_
        rintro e w' ⟨rfl, hb3⟩
        exact hK _ _ (LFr_mono hb3) (hJ.trans (hb3.mono hJ.size)) (fun _ => rfl)
      | 15, ho, hd =>
        have ho' := ho
        simp only [List.getElem?_toArray, List.getElem?_cons_zero, List.getElem?_cons_succ, Option.some.injEq] at ho hd
        subst ho hd
        have r58 : a.eval (.tmp 58) = .bool true := (hdep ⟨9, .data⟩ (by simp) rfl).2 58 rfl
        rw [Vals.eval_tmp] at r58
        have r63 : a.eval (.tmp 63) = .bool true := (hdep ⟨14, .data⟩ (by simp) rfl).2 63 rfl
        rw [Vals.eval_tmp] at r63
        refine Vals.wpOp_run ho' rfl ?_
        clear hdep hfr ho' hdf hcl
        go_simp
        exact hK _ _ (fun _ _ h => h) hJ (fun _ => rfl)
      | 16, ho, hd =>
        have ho' := ho
        simp only [List.getElem?_toArray, List.getElem?_cons_zero, List.getElem?_cons_succ, Option.some.injEq] at ho hd
        subst ho hd
        have r64 : a.eval (.tmp 64) = .bool true := (hdep ⟨15, .data⟩ (by simp) rfl).2 64 rfl
        rw [Vals.eval_tmp] at r64
        refine Vals.wpOp_run ho' rfl ?_
        clear hdep hfr ho' hdf hcl
        go_simp
        exact hK _ _ (fun _ _ h => h) hJ (fun _ => rfl)
      | 17, ho, hd =>
        have ho' := ho
        simp only [List.getElem?_toArray, List.getElem?_cons_zero, List.getElem?_cons_succ, Option.some.injEq] at ho hd
        subst ho hd
        have hgd : a.eval (.tmp 65) = .bool true := (hdep ⟨16, .guard⟩ (by simp) rfl).2 65 rfl
        have r9 : a.eval (.tmp 9) = .int .i64 er := hfr 9 (by decide)
        rw [Vals.eval_tmp] at r9
        refine Vals.wpOp_run ho' (by unfold Region.wanted; simp only []; rw [Vals.yielded_of (d := 65) rfl hgd]; rfl) ?_
        clear hdep hfr ho' hdf hgd hcl
        go_simp
        exact hK _ _ (fun _ _ h => h) hJ (fun _ => rfl)
      | 18, ho, hd =>
        have ho' := ho
        simp only [List.getElem?_toArray, List.getElem?_cons_zero, List.getElem?_cons_succ, Option.some.injEq] at ho hd
        subst ho hd
        have hgd : a.eval (.tmp 65) = .bool true := (hdep ⟨16, .guard⟩ (by simp) rfl).2 65 rfl
        have r11 : a.eval (.tmp 11) = .int .i64 er := hfr 11 (by decide)
        rw [Vals.eval_tmp] at r11
        refine Vals.wpOp_run ho' (by unfold Region.wanted; simp only []; rw [Vals.yielded_of (d := 65) rfl hgd]; rfl) ?_
        clear hdep hfr ho' hdf hgd hcl
        go_simp
        exact hK _ _ (fun _ _ h => h) hJ (fun _ => rfl)
      | 19, ho, hd =>
        have ho' := ho
        simp only [List.getElem?_toArray, List.getElem?_cons_zero, List.getElem?_cons_succ, Option.some.injEq] at ho hd
        subst ho hd
        have hgd : a.eval (.tmp 65) = .bool true := (hdep ⟨16, .guard⟩ (by simp) rfl).2 65 rfl
        have r66 : a.eval (.tmp 66) = .int .i64 er := (hdep ⟨17, .data⟩ (by simp) rfl).2 66 rfl
        rw [Vals.eval_tmp] at r66
        have r67 : a.eval (.tmp 67) = .int .i64 er := (hdep ⟨18, .data⟩ (by simp) rfl).2 67 rfl
        rw [Vals.eval_tmp] at r67
        refine Vals.wpOp_run ho' (by unfold Region.wanted; simp only []; rw [Vals.yielded_of (d := 65) rfl hgd]; rfl) ?_
        clear hdep hfr ho' hdf hgd hcl
        go_simp
        exact hK _ _ (fun _ _ h => h) hJ (fun _ => rfl)
      | 20, ho, hd =>
        have ho' := ho
        simp only [List.getElem?_toArray, List.getElem?_cons_zero, List.getElem?_cons_succ, Option.some.injEq] at ho hd
        subst ho hd
        have r65 : a.eval (.tmp 65) = .bool true := (hdep ⟨16, .data⟩ (by simp) rfl).2 65 rfl
        rw [Vals.eval_tmp] at r65
        have r68 : a.eval (.tmp 68) = .bool true := (hdep ⟨19, .data⟩ (by simp) rfl).2 68 rfl
        rw [Vals.eval_tmp] at r68
        refine Vals.wpOp_run ho' rfl ?_
        clear hdep hfr ho' hdf hcl
        go_simp
        exact hK _ _ (fun _ _ h => h) hJ (fun _ => rfl)
      | 21, ho, hd =>
        have ho' := ho
        simp only [List.getElem?_toArray, List.getElem?_cons_zero, List.getElem?_cons_succ, Option.some.injEq] at ho hd
        subst ho hd
        have r69 : a.eval (.tmp 69) = .bool true := (hdep ⟨20, .data⟩ (by simp) rfl).2 69 rfl
        rw [Vals.eval_tmp] at r69
        refine Vals.wpOp_run ho' rfl ?_
        clear hdep hfr ho' hdf hcl
        go_simp
        exact hK _ _ (fun _ _ h => h) hJ (fun _ => rfl)
      | 22, ho, hd =>
        have ho' := ho
        simp only [List.getElem?_toArray, List.getElem?_cons_zero, List.getElem?_cons_succ, Option.some.injEq] at ho hd
        subst ho hd
        have hgd : a.eval (.tmp 70) = .bool true := (hdep ⟨21, .guard⟩ (by simp) rfl).2 70 rfl
        have r8 : a.eval (.tmp 8) = .pointer (some ⟨gx, 0, none⟩) := hfr 8 (by decide)
        rw [Vals.eval_tmp] at r8
        have c0 := (HX9.out.keep hJ).cell (i := 0) rfl
        have c1 := (HX9.out.keep hJ).cell (i := 1) rfl
        refine Vals.wpOp_run ho' (by unfold Region.wanted; simp only []; rw [Vals.yielded_of (d := 70) rfl hgd]; rfl) ?_
        clear hdep hfr ho' hdf hgd hcl
        go_simp
        exact hK _ _ (fun _ _ h => h) hJ (fun _ => rfl)
      | 23, ho, hd =>
        have ho' := ho
        simp only [List.getElem?_toArray, List.getElem?_cons_zero, List.getElem?_cons_succ, Option.some.injEq] at ho hd
        subst ho hd
        have hgd : a.eval (.tmp 70) = .bool true := (hdep ⟨21, .guard⟩ (by simp) rfl).2 70 rfl
        have r10 : a.eval (.tmp 10) = .pointer (some ⟨gy, 0, none⟩) := hfr 10 (by decide)
        rw [Vals.eval_tmp] at r10
        have c0 := (HY9.out.keep hJ).cell (i := 0) rfl
        have c1 := (HY9.out.keep hJ).cell (i := 1) rfl
        refine Vals.wpOp_run ho' (by unfold Region.wanted; simp only []; rw [Vals.yielded_of (d := 70) rfl hgd]; rfl) ?_
        clear hdep hfr ho' hdf hgd hcl
        go_simp
        exact hK _ _ (fun _ _ h => h) hJ (fun _ => rfl)
      | 24, ho, hd =>
        have ho' := ho
        simp only [List.getElem?_toArray, List.getElem?_cons_zero, List.getElem?_cons_succ, Option.some.injEq] at ho hd
        subst ho hd
        have hgd : a.eval (.tmp 70) = .bool true := (hdep ⟨21, .guard⟩ (by simp) rfl).2 70 rfl
        have r71 : a.eval (.tmp 71) = .agg #[.int .u32 X, .slice xa m xc] := (hdep ⟨22, .data⟩ (by simp) rfl).2 71 rfl
        rw [Vals.eval_tmp] at r71
        have r72 : a.eval (.tmp 72) = .agg #[.int .u32 X, .slice ya m yc] := (hdep ⟨23, .data⟩ (by simp) rfl).2 72 rfl
        rw [Vals.eval_tmp] at r72
        refine Vals.wpOp_run ho' (by unfold Region.wanted; simp only []; rw [Vals.yielded_of (d := 70) rfl hgd]; rfl) ?_
        clear hdep hfr ho' hdf hgd hcl
        go_simp
        refine (sameForward_yes X xa ya m xc yc qs W (HXP.out.below hJ (Nat.le_refl _)) (HYP.out.below hJ (Nat.le_refl _)) (by have := HMM.out; omega)).mono ?_
        rintro e w' ⟨rfl, hb3⟩
        exact hK _ _ (LFr_mono hb3) (hJ.trans (hb3.mono hJ.size)) (fun _ => rfl)
      | 25, ho, hd =>
        have ho' := ho
        simp only [List.getElem?_toArray, List.getElem?_cons_zero, List.getElem?_cons_succ, Option.some.injEq] at ho hd
        subst ho hd
        have r70 : a.eval (.tmp 70) = .bool true := (hdep ⟨21, .data⟩ (by simp) rfl).2 70 rfl
        rw [Vals.eval_tmp] at r70
        have r73 : a.eval (.tmp 73) = .bool true := (hdep ⟨24, .data⟩ (by simp) rfl).2 73 rfl
        rw [Vals.eval_tmp] at r73
        refine Vals.wpOp_run ho' rfl ?_
        clear hdep hfr ho' hdf hcl
        go_simp
        exact hK _ _ (fun _ _ h => h) hJ (fun _ => rfl)
      | 26, ho, hd =>
        have ho' := ho
        simp only [List.getElem?_toArray, List.getElem?_cons_zero, List.getElem?_cons_succ, Option.some.injEq] at ho hd
        subst ho hd
        have r74 : a.eval (.tmp 74) = .bool true := (hdep ⟨25, .data⟩ (by simp) rfl).2 74 rfl
        rw [Vals.eval_tmp] at r74
        refine Vals.wpOp_run ho' rfl ?_
        clear hdep hfr ho' hdf hcl
        go_simp
        exact hK _ _ (fun _ _ h => h) hJ (fun _ => rfl)
      | 27, ho, hd =>
        have ho' := ho
        simp only [List.getElem?_toArray, List.getElem?_cons_zero, List.getElem?_cons_succ, Option.some.injEq] at ho hd
        subst ho hd
        have hgd : a.eval (.tmp 75) = .bool true := (hdep ⟨26, .guard⟩ (by simp) rfl).2 75 rfl
        refine Vals.wpOp_run ho' (by unfold Region.wanted; simp only []; rw [Vals.yielded_of (d := 75) rfl hgd]; rfl) ?_
        clear hdep hfr ho' hdf hgd hcl
        go_simp
        refine (works_any W).mono ?_
        rintro e w' ⟨rfl, hb3⟩
        exact hK _ _ (LFr_mono hb3) (hJ.trans (hb3.mono hJ.size)) (fun _ => rfl)
      | 28, ho, hd =>
        have ho' := ho
        simp only [List.getElem?_toArray, List.getElem?_cons_zero, List.getElem?_cons_succ, Option.some.injEq] at ho hd
        subst ho hd
        have r75 : a.eval (.tmp 75) = .bool true := (hdep ⟨26, .data⟩ (by simp) rfl).2 75 rfl
        rw [Vals.eval_tmp] at r75
        have r76 : a.eval (.tmp 76) = .bool true := (hdep ⟨27, .data⟩ (by simp) rfl).2 76 rfl
        rw [Vals.eval_tmp] at r76
        refine Vals.wpOp_run ho' rfl ?_
        clear hdep hfr ho' hdf hcl
        go_simp
        exact hK _ _ (fun _ _ h => h) hJ (fun _ => rfl)
      | 29, ho, hd =>
        have ho' := ho
        simp only [List.getElem?_toArray, List.getElem?_cons_zero, List.getElem?_cons_succ, Option.some.injEq] at ho hd
        subst ho hd
        have r77 : a.eval (.tmp 77) = .bool true := (hdep ⟨28, .data⟩ (by simp) rfl).2 77 rfl
        rw [Vals.eval_tmp] at r77
        refine Vals.wpOp_run ho' rfl ?_
        clear hdep hfr ho' hdf hcl
        go_simp
        exact hK _ _ (fun _ _ h => h) hJ (fun _ => rfl)
      | i + 30, ho, hd => simp at ho
    case fin9 =>
      intro listed W fq2 hall hJ hG
      have q0 : fq2 49 = .agg #[.int .u8 192, .int .u8 0, .slice pa LP pc] := hG 0 49 rfl
      have q1 : fq2 50 = .agg #[.int .u32 f0, .slice fa fn' fk] := hG 1 50 rfl
      obtain ⟨b1_51, e1_51, q2, hq51_0⟩ : ∃ b1_51 e1_51, fq2 51 = .agg #[.int .u8 192, .int .u8 0, .slice b1_51 (fwdB f0 fs).length e1_51] ∧ Reads W b1_51 (fwdB f0 fs).length (fwdB f0 fs) := hG 2 51 rfl
      have q3 : fq2 52 = .bool true := hG 3 52 rfl
      have q4 : fq2 53 = .bool true := hG 4 53 rfl
      have q5 : fq2 54 = .agg #[.int .u32 f0, .slice ra fn' rc] := hG 5 54 rfl
      have q6 : fq2 55 = .agg #[.int .u32 f0, .slice fa fn' fk] := hG 6 55 rfl
      have q7 : fq2 56 = .bool true := hG 7 56 rfl
      have q8 : fq2 57 = .bool true := hG 8 57 rfl
      have q9 : fq2 58 = .bool true := hG 9 58 rfl
      have q10 : fq2 59 = .pointer (some ⟨gq, 2, none⟩) := hG 10 59 rfl
      have q11 : fq2 60 = .slice (some ⟨g6, 0, none⟩) n (n + 16) := hG 11 60 rfl
      have q12 : fq2 61 = .pointer (some ⟨w.heap.size + 1, 2, none⟩) := hG 12 61 rfl
      have q13 : fq2 62 = .slice p n c := hG 13 62 rfl
      have q14 : fq2 63 = .bool true := hG 14 63 rfl
      have q15 : fq2 64 = .bool true := hG 15 64 rfl
      have q16 : fq2 65 = .bool true := hG 16 65 rfl
      have q17 : fq2 66 = .int .i64 er := hG 17 66 rfl
      have q18 : fq2 67 = .int .i64 er := hG 18 67 rfl
      have q19 : fq2 68 = .bool true := hG 19 68 rfl
      have q20 : fq2 69 = .bool true := hG 20 69 rfl
      have q21 : fq2 70 = .bool true := hG 21 70 rfl
      have q22 : fq2 71 = .agg #[.int .u32 X, .slice xa m xc] := hG 22 71 rfl
      have q23 : fq2 72 = .agg #[.int .u32 X, .slice ya m yc] := hG 23 72 rfl
      have q24 : fq2 73 = .bool true := hG 24 73 rfl
      have q25 : fq2 74 = .bool true := hG 25 74 rfl
      have q26 : fq2 75 = .bool true := hG 26 75 rfl
      have q27 : fq2 76 = .bool true := hG 27 76 rfl
      have q28 : fq2 77 = .bool true := hG 28 77 rfl
      have q29 : fq2 4 = .bool true := hG 29 4 rfl
      clear hG hall
      simp only [Vals.puts, Vals.pairs, List.filterMap_cons, List.filterMap_nil, id, List.map_cons, List.map_nil, List.foldl_cons, List.foldl_nil, q0, q1, q2, q3, q4, q5, q6, q7, q8, q9, q10, q11, q12, q13, q14, q15, q16, q17, q18, q19, q20, q21, q22, q23, q24, q25, q26, q27, q28, q29]
      clear q0 q1 q2 q3 q4 q5 q6 q7 q8 q9 q10 q11 q12 q13 q14 q15 q16 q17 q18 q19 q20 q21 q22 q23 q24 q25 q26 q27 q28 q29
      go_frame
      have HJ := Lib.hid (HBI.out.trans (hJ.mono HBI.out.size))
      clear hJ HF9 HC9 HI9 HIN HP9 HPB HQ9 HQ HX9 HXP HY9 HYP
      go_wp2
      go_ret
      exact ⟨rfl, HJ.out⟩

end Go.Proofs.Ytlihcckgnnnekaa
