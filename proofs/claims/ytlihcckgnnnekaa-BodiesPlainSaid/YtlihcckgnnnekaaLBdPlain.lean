/-
  The walk of BodiesPlain. Written by genplain.py.
-/
import Derived.Test.YtlihcckgnnnekaaBdCom
namespace Go.Proofs.Ytlihcckgnnnekaa
open Go.RowKit
set_option linter.unusedVariables false
set_option linter.unusedSimpArgs false

/-- What the operations of the drawn region leave behind. -/
def LPq (w w1 : World) (k f : Int) (p : Option Addr) (n c : Nat) (zs : List Int) (i : Nat) (v : Value) (W : World) : Prop := match i with | 0 => v = .pointer (some ⟨w.heap.size + 1, 0, none⟩) | 1 => v = .int .u8 k | 2 => v = .pointer (some ⟨w.heap.size + 1, 1, none⟩) | 3 => v = .int .u8 f | 4 => v = .pointer (some ⟨w.heap.size + 1, 2, none⟩) | 5 => v = .slice p n c | 6 => ∃ gr, v = .slice (some ⟨gr, 0, none⟩) n (n + 16) ∧ w1.heap.size ≤ gr ∧ Blk W gr (zs ++ List.replicate 16 90) | 7 => ∃ gr_23, v = .agg #[.int .u8 k, .int .u8 f, .slice (some ⟨gr_23, 0, none⟩) n (n + 16)] ∧ w1.heap.size ≤ gr_23 ∧ Blk W gr_23 (zs ++ List.replicate 16 90) | 8 => ∃ gn, v = .pointer (some ⟨gn, 0, none⟩) ∧ w1.heap.size ≤ gn ∧ Arr W gn 28 [.int .u8 0, .int .u8 0, .slice none 0 0] | _ => True
theorem LPq_mono {w w1 : World} {k f : Int} {p : Option Addr} {n c : Nat} {zs : List Int} {W W' : World} (hb : Below W.heap.size W W') (jo : Nat) (xo : Value) (h : LPq w w1 k f p n c zs jo xo W) : LPq w w1 k f p n c zs jo xo W' := by
  unfold LPq at h ⊢
  split at h <;> try exact h
  · obtain ⟨gr, e0, h0_0, h0_1⟩ := h
    exact ⟨gr, e0, h0_0, h0_1.below hb⟩
  · obtain ⟨gr_23, e0, h0_0, h0_1⟩ := h
    exact ⟨gr_23, e0, h0_0, h0_1.below hb⟩
  · obtain ⟨gn, e0, h0_0, h0_1⟩ := h
    exact ⟨gn, e0, h0_0, h0_1.keep hb⟩

/-- What the operations of the drawn region leave behind. -/
def LPr (w wr : World) (kx at' cu T U e1 e2 k f : Int) (p : Option Addr) (n c : Nat) (g g6 : Nat) (i : Nat) (v : Value) (W : World) : Prop := match i with | 0 => v = .pointer (some ⟨w.heap.size, 0, none⟩) | 1 => v = .int .u8 kx | 2 => v = .pointer (some ⟨w.heap.size, 1, none⟩) | 3 => v = .int .i64 at' | 4 => ∃ a1 c1, v = .agg #[.int .u8 kx, .int .u8 0, .slice a1 (timeB at').length c1] ∧ Reads W a1 (timeB at').length (timeB at') | 5 => v = .pointer (some ⟨w.heap.size, 0, none⟩) | 6 => v = .int .u8 kx | 7 => v = .pointer (some ⟨w.heap.size, 1, none⟩) | 8 => v = .int .i64 at' | 9 => ∃ a1 c1, v = .agg #[.int .u8 kx, .int .u8 0, .slice a1 (timeB at').length c1] ∧ Reads W a1 (timeB at').length (timeB at') | 10 => v = .bool true | 11 => v = .bool true | 12 => v = .pointer (some ⟨w.heap.size, 2, none⟩) | 13 => v = .int .u32 cu | 14 => ∃ a1 c1, v = .agg #[.int .u8 7, .int .u8 0, .slice a1 (enc cu 4).length c1] ∧ Reads W a1 (enc cu 4).length (enc cu 4) | 15 => v = .pointer (some ⟨w.heap.size, 2, none⟩) | 16 => v = .int .u32 cu | 17 => ∃ a1 c1, v = .agg #[.int .u8 7, .int .u8 0, .slice a1 (enc cu 4).length c1] ∧ Reads W a1 (enc cu 4).length (enc cu 4) | 18 => v = .bool true | 19 => v = .bool true | 20 => v = .bool true | 21 => v = .int .i64 T | 22 => v = .int .i64 T | 23 => v = .bool true | 24 => v = .bool true | 25 => v = .bool true | 26 => v = .int .i64 e1 | 27 => v = .int .i64 e1 | 28 => v = .bool true | 29 => v = .bool true | 30 => v = .bool true | 31 => v = .int .u32 U | 32 => v = .int .u32 U | 33 => v = .bool true | 34 => v = .bool true | 35 => v = .bool true | 36 => v = .int .i64 e2 | 37 => v = .int .i64 e2 | 38 => v = .bool true | 39 => v = .bool true | 40 => v = .bool true | 41 => v = .pointer (some ⟨g, 2, none⟩) | 42 => v = .slice (some ⟨g6, 0, none⟩) n (n + 16) | 43 => v = .pointer (some ⟨w.heap.size + 1, 2, none⟩) | 44 => v = .slice p n c | 45 => v = .bool true | 46 => v = .bool true | 47 => v = .bool true | 48 => v = .bool true | 49 => v = .bool true | 50 => v = .bool true | _ => True
theorem LPr_mono {w wr : World} {kx at' cu T U e1 e2 k f : Int} {p : Option Addr} {n c : Nat} {g g6 : Nat} {W W' : World} (hb : Below W.heap.size W W') (jo : Nat) (xo : Value) (h : LPr w wr kx at' cu T U e1 e2 k f p n c g g6 jo xo W) : LPr w wr kx at' cu T U e1 e2 k f p n c g g6 jo xo W' := by
  unfold LPr at h ⊢
  split at h <;> try exact h
  · obtain ⟨a1, c1, e0, h0_0⟩ := h
    exact ⟨a1, c1, e0, h0_0.below hb⟩
  · obtain ⟨a1, c1, e0, h0_0⟩ := h
    exact ⟨a1, c1, e0, h0_0.below hb⟩
  · obtain ⟨a1, c1, e0, h0_0⟩ := h
    exact ⟨a1, c1, e0, h0_0.below hb⟩
  · obtain ⟨a1, c1, e0, h0_0⟩ := h
    exact ⟨a1, c1, e0, h0_0.below hb⟩

set_option maxRecDepth 100000 in
set_option maxHeartbeats 3200000 in
theorem bodiesPlain_walk (kx at' cu k f : Int) (p : Option Addr) (n c : Nat) (z : List Int) (w : World) (wkx : (Lit.int .u8 kx).wf = true) (wat : (Lit.int .i64 at').wf = true) (wcu : (Lit.int .u32 cu).wf = true) (wk : (Lit.int .u8 k).wf = true) (wf : (Lit.int .u8 f).wf = true) (w0 : IsRow .u8 w p n c z) :
    Calls Try.prog 7 #[.agg #[.int .u8 kx, .int .i64 at', .int .u32 cu], .agg #[.int .u8 k, .int .u8 f, .slice p n c]] w fun e w' => e = .returned (.bool true) ∧ Below w.heap.size w w' := by
  obtain ⟨hr, hbyt, hcap, hmax⟩ := w0.reads
  have hcu := wf_u32_in wcu
  obtain ⟨hc0, hc1⟩ : 0 ≤ cu ∧ cu < 4294967296 := ⟨hcu.1, by omega⟩
  clear w0 wkx wat wcu wk wf hcu
  generalize z.take n = zs at hr hbyt
  unfold maxLen at hmax
  obtain ⟨wa, hwa⟩ : ∃ wa, w.alloc (.cells #[.int .u8 kx, .int .i64 at', .int .u32 cu] 68) = wa := ⟨_, rfl⟩
  have hba : Below w.heap.size w wa := by rw [← hwa]; exact (Below.refl _ _).alloc (Nat.le_refl _) _
  have hsa : wa.heap.size = w.heap.size + 1 := by rw [← hwa]; simp
  have hXa : Arr wa w.heap.size 68 [.int .u8 kx, .int .i64 at', .int .u32 cu] := by rw [← hwa]; exact arr_new _ _ _
  obtain ⟨wb, hwb⟩ : ∃ wb, wa.alloc (.cells #[.int .u8 k, .int .u8 f, .slice p n c] 28) = wb := ⟨_, rfl⟩
  have hbb : Below wa.heap.size wa wb := by rw [← hwb]; exact chunkBelow _ _ _ _
  have hsb : wb.heap.size = w.heap.size + 2 := by rw [← hwb]; simp; omega
  have hCb : Arr wb (w.heap.size + 1) 28 [.int .u8 k, .int .u8 f, .slice p n c] := by rw [← hwb, ← hsa]; exact chunkBox _ _ _ _
  have hbw := hba.trans (hbb.mono hba.size)
  have hXb := hXa.keep hbb
  have c0 := hCb.cell (i := 0) rfl
  have c1 := hCb.cell (i := 1) rfl
  have c2 := hCb.cell (i := 2) rfl
  obtain ⟨lg, hlg⟩ : ∃ lg, lg = decide (8192 < n) := ⟨_, rfl⟩
  have HLA := Lib.hid (large_any k f p n c wb lg hlg)
  have HR0 := Lib.hid (And.intro hr (And.intro hbyt hcap))
  have H0 := Lib.hid (And.intro hbw (And.intro hXb hCb))
  clear hr hbyt hba hXa hbb hCb hbw hXb
  go_enter Try.func7, Try.ntmps7
  go_wp2_with fail
  refine HLA.out.mono ?_
  rintro e w1 ⟨rfl, hb1⟩
  have HB1 := Lib.hid (H0.out.1.trans (hb1.mono H0.out.1.size))
  have HX := Lib.hid (H0.out.2.1.keep hb1)
  have HC := Lib.hid (H0.out.2.2.keep hb1)
  have HR := Lib.hid (And.intro (HR0.out.1.below HB1.out) HR0.out.2.1)
  have HCAP := Lib.hid HR0.out.2.2
  clear hb1 H0 HLA c0 c1 c2 HR0
  cases lg with
  | true =>
    clear hlg
    go_wp2_with (go_at_call 13; refine (works_any _).mono ?_; rintro e w' ⟨rfl, hb⟩)
    go_ret
    exact ⟨rfl, HB1.out.trans (hb.mono HB1.out.size)⟩
  | false =>
  have hlen : n ≤ 8192 := by simpa using hlg.symm
  clear hlg
  go_wp2_with fail
  refine wp_region_any (by kernel_rfl) ?_
  refine Vals.wpAny_goodLast (LPq w w1 k f p n c zs) (fun W => Below w1.heap.size w1 W) [some 17, some 18, some 19, some 20, some 21, some 22, some 23, some 24, some 5, none] 9 95 _ _ rfl (by kernel_rfl) (by kernel_rfl) (by kernel_rfl) (by decide) rfl ?step ?fin (Below.refl _ _).drew
  case step =>
    intro i o d ho hd hiN a W hJ hdf hdep hfr K hK
    match i, ho, hd with
    | 0, ho, hd =>
      have ho' := ho
      simp only [List.getElem?_toArray, List.getElem?_cons_zero, Option.some.injEq] at ho hd
      subst ho hd
      have r3 : a.eval (.tmp 3) = .pointer (some ⟨w.heap.size + 1, 0, none⟩) := hfr 3 (by decide)
      rw [Vals.eval_tmp] at r3
      refine Vals.wpOp_run ho' rfl ?_
      clear hdep hfr ho' hdf
      go_simp
      exact hK _ _ (fun _ _ h => h) hJ (fun _ => rfl)
    | 1, ho, hd =>
      have ho' := ho
      simp only [List.getElem?_toArray, List.getElem?_cons_zero, List.getElem?_cons_succ, Option.some.injEq] at ho hd
      subst ho hd
      have r17 : a.eval (.tmp 17) = .pointer (some ⟨w.heap.size + 1, 0, none⟩) := hdep ⟨0, .data⟩ (by simp) rfl 17 rfl
      rw [Vals.eval_tmp] at r17
      have c0 := (HC.out.keep hJ).cell (i := 0) rfl
      refine Vals.wpOp_run ho' rfl ?_
      clear hdep hfr ho' hdf
      go_simp
      exact hK _ _ (fun _ _ h => h) hJ (fun _ => rfl)
    | 2, ho, hd =>
      have ho' := ho
      simp only [List.getElem?_toArray, List.getElem?_cons_zero, List.getElem?_cons_succ, Option.some.injEq] at ho hd
      subst ho hd
      have r3 : a.eval (.tmp 3) = .pointer (some ⟨w.heap.size + 1, 0, none⟩) := hfr 3 (by decide)
      rw [Vals.eval_tmp] at r3
      refine Vals.wpOp_run ho' rfl ?_
      clear hdep hfr ho' hdf
      go_simp
      exact hK _ _ (fun _ _ h => h) hJ (fun _ => rfl)
    | 3, ho, hd =>
      have ho' := ho
      simp only [List.getElem?_toArray, List.getElem?_cons_zero, List.getElem?_cons_succ, Option.some.injEq] at ho hd
      subst ho hd
      have r19 : a.eval (.tmp 19) = .pointer (some ⟨w.heap.size + 1, 1, none⟩) := hdep ⟨2, .data⟩ (by simp) rfl 19 rfl
      rw [Vals.eval_tmp] at r19
      have c0 := (HC.out.keep hJ).cell (i := 1) rfl
      refine Vals.wpOp_run ho' rfl ?_
      clear hdep hfr ho' hdf
      go_simp
      exact hK _ _ (fun _ _ h => h) hJ (fun _ => rfl)
    | 4, ho, hd =>
      have ho' := ho
      simp only [List.getElem?_toArray, List.getElem?_cons_zero, List.getElem?_cons_succ, Option.some.injEq] at ho hd
      subst ho hd
      have r3 : a.eval (.tmp 3) = .pointer (some ⟨w.heap.size + 1, 0, none⟩) := hfr 3 (by decide)
      rw [Vals.eval_tmp] at r3
      refine Vals.wpOp_run ho' rfl ?_
      clear hdep hfr ho' hdf
      go_simp
      exact hK _ _ (fun _ _ h => h) hJ (fun _ => rfl)
    | 5, ho, hd =>
      have ho' := ho
      simp only [List.getElem?_toArray, List.getElem?_cons_zero, List.getElem?_cons_succ, Option.some.injEq] at ho hd
      subst ho hd
      have r21 : a.eval (.tmp 21) = .pointer (some ⟨w.heap.size + 1, 2, none⟩) := hdep ⟨4, .data⟩ (by simp) rfl 21 rfl
      rw [Vals.eval_tmp] at r21
      have c0 := (HC.out.keep hJ).cell (i := 2) rfl
      refine Vals.wpOp_run ho' rfl ?_
      clear hdep hfr ho' hdf
      go_simp
      exact hK _ _ (fun _ _ h => h) hJ (fun _ => rfl)
    | 6, ho, hd =>
      have ho' := ho
      simp only [List.getElem?_toArray, List.getElem?_cons_zero, List.getElem?_cons_succ, Option.some.injEq] at ho hd
      subst ho hd
      have r22 : a.eval (.tmp 22) = .slice p n c := hdep ⟨5, .data⟩ (by simp) rfl 22 rfl
      rw [Vals.eval_tmp] at r22
      refine Vals.wpOp_run ho' rfl ?_
      clear hdep hfr ho' hdf
      go_simp
      refine (roomy_any p n c zs W (HR.out.1.below hJ) (by omega)).mono ?_
      rintro e w' ⟨rfl, hb3, hk3⟩
      exact hK _ _ (LPq_mono hb3) (hJ.trans (hb3.mono hJ.size)) (fun _ => ⟨_, rfl, hJ.size, hk3⟩)
    | 7, ho, hd =>
      have ho' := ho
      simp only [List.getElem?_toArray, List.getElem?_cons_zero, List.getElem?_cons_succ, Option.some.injEq] at ho hd
      subst ho hd
      have r18 : a.eval (.tmp 18) = .int .u8 k := hdep ⟨1, .data⟩ (by simp) rfl 18 rfl
      rw [Vals.eval_tmp] at r18
      have r20 : a.eval (.tmp 20) = .int .u8 f := hdep ⟨3, .data⟩ (by simp) rfl 20 rfl
      rw [Vals.eval_tmp] at r20
      have g23 : ∃ gr_23, a.eval (.tmp 23) = .slice (some ⟨gr_23, 0, none⟩) n (n + 16) ∧ w1.heap.size ≤ gr_23 ∧ Blk W gr_23 (zs ++ List.replicate 16 90) := hdep ⟨6, .data⟩ (by simp) rfl 23 rfl
      rw [Vals.eval_tmp] at g23
      obtain ⟨gr_23, r23, h23_0, h23_1⟩ := g23
      refine Vals.wpOp_run ho' rfl ?_
      clear hdep hfr ho' hdf
      go_simp
      exact hK _ _ (fun _ _ h => h) hJ (fun _ => ⟨_, rfl, h23_0, h23_1⟩)
    | 8, ho, hd =>
      have ho' := ho
      simp only [List.getElem?_toArray, List.getElem?_cons_zero, List.getElem?_cons_succ, Option.some.injEq] at ho hd
      subst ho hd
      refine Vals.wpOp_run ho' rfl ?_
      clear hdep hfr ho' hdf
      go_simp
      have hb3 : Below W.heap.size W (W.alloc (.cells #[.int .u8 0, .int .u8 0, .slice none 0 0] 28)) := (Below.refl _ _).alloc (Nat.le_refl _) _
      exact hK _ _ (LPq_mono hb3) (hJ.trans (hb3.mono hJ.size)) (fun _ => ⟨_, rfl, hJ.size, arr_new _ _ _⟩)
    | i + 9, ho, hd => omega
  case fin =>
    intro W fq hJ hG
    have q0 : fq 17 = .pointer (some ⟨w.heap.size + 1, 0, none⟩) := hG 0 17 rfl
    have q1 : fq 18 = .int .u8 k := hG 1 18 rfl
    have q2 : fq 19 = .pointer (some ⟨w.heap.size + 1, 1, none⟩) := hG 2 19 rfl
    have q3 : fq 20 = .int .u8 f := hG 3 20 rfl
    have q4 : fq 21 = .pointer (some ⟨w.heap.size + 1, 2, none⟩) := hG 4 21 rfl
    have q5 : fq 22 = .slice p n c := hG 5 22 rfl
    obtain ⟨gr_23, q6, hq23_0, hq23_1⟩ : ∃ gr_23, fq 23 = .slice (some ⟨gr_23, 0, none⟩) n (n + 16) ∧ w1.heap.size ≤ gr_23 ∧ Blk W gr_23 (zs ++ List.replicate 16 90) := hG 6 23 rfl
    obtain ⟨gr_24, q7, hq24_0, hq24_1⟩ : ∃ gr_24, fq 24 = .agg #[.int .u8 k, .int .u8 f, .slice (some ⟨gr_24, 0, none⟩) n (n + 16)] ∧ w1.heap.size ≤ gr_24 ∧ Blk W gr_24 (zs ++ List.replicate 16 90) := hG 7 24 rfl
    obtain ⟨gn_5, q8, hq5_0, hq5_1⟩ : ∃ gn_5, fq 5 = .pointer (some ⟨gn_5, 0, none⟩) ∧ w1.heap.size ≤ gn_5 ∧ Arr W gn_5 28 [.int .u8 0, .int .u8 0, .slice none 0 0] := hG 8 5 rfl
    clear hG
    refine Vals.wpOp_run rfl rfl ?_
    simp only [Vals.puts, Vals.pairs, List.filterMap_cons, List.filterMap_nil, id, List.map_cons, List.map_nil, List.foldl_cons, List.foldl_nil, q0, q1, q2, q3, q4, q5, q6, q7, q8]
    clear q0 q1 q2 q3 q4 q5 q6 q7 q8
    go_frame
    obtain ⟨W4, hW4⟩ : ∃ x, (((W.setCell ⟨gn_5, 0, none⟩ (.int .u8 k)).setCell ⟨gn_5, 1, none⟩ (.int .u8 f)).setCell ⟨gn_5, 2, none⟩ (.slice (some ⟨gr_24, 0, none⟩) n (n + 16))) = x := ⟨_, rfl⟩
    have hA4 : Arr _ gn_5 28 [.int .u8 k, .int .u8 f, .slice (some ⟨gr_24, 0, none⟩) n (n + 16)] := (((hq5_1.set 0 (.int .u8 k)).set 1 (.int .u8 f)).set 2 (.slice (some ⟨gr_24, 0, none⟩) n (n + 16)))
    have hB4 := ((((hJ : Below w1.heap.size w1 W).setCell (p := ⟨gn_5, 0, none⟩) hq5_0 (.int .u8 k)).setCell (p := ⟨gn_5, 1, none⟩) hq5_0 (.int .u8 f)).setCell (p := ⟨gn_5, 2, none⟩) hq5_0 (.slice (some ⟨gr_24, 0, none⟩) n (n + 16)))
    rw [hW4] at hA4 hB4
    have hne := hq24_1.ne_arr hq5_1
    have hk4 : Blk _ gr_24 (zs ++ List.replicate 16 90) := (Below.heap_setCell _ ⟨gn_5, 2, none⟩ (.slice (some ⟨gr_24, 0, none⟩) n (n + 16)) _ (by simpa using hne)).trans ((Below.heap_setCell _ ⟨gn_5, 1, none⟩ (.int .u8 f) _ (by simpa using hne)).trans ((Below.heap_setCell W ⟨gn_5, 0, none⟩ (.int .u8 k) _ (by simpa using hne)).trans hq24_1))
    rw [hW4] at hk4
    have fr0 := hq5_1.free 0
    have fr1 := hq5_1.free 1
    have fr2 := hq5_1.free 2
    have y0 := hq5_1.cell (i := 0) rfl
    have y1 := hq5_1.cell (i := 1) rfl
    have y2 := hq5_1.cell (i := 2) rfl
    have HG4 := Lib.hid (And.intro hA4 (And.intro hB4 hk4))
    clear hA4 hB4 hk4 hne hJ hq5_0 hq5_1 hq23_0 hq23_1 hq24_0 hq24_1
    go_simp
    clear fr0 fr1 fr2 y0 y1 y2
    generalize gn_5 = g at *
    generalize gr_24 = g6 at *
    have hin4 : Reads W4 (some ⟨g6, 0, none⟩) n zs := roomy_in HG4.out.2.2 HR.out.1.1
    have HT1 := Lib.hid (pgetTime k f (some ⟨g6, 0, none⟩) n (n + 16) zs W4 hin4 HR.out.2 (by omega) (by omega))
    have d0 := HG4.out.1.cell (i := 0) rfl
    have d1 := HG4.out.1.cell (i := 1) rfl
    have d2 := HG4.out.1.cell (i := 2) rfl
    clear hin4
    go_wp2_with fail
    refine HT1.out.mono ?_
    rintro e w5 ⟨hch, hb5⟩
    obtain rfl := hch.int
    obtain ⟨T, hT⟩ : ∃ T, T = (if okTime k f zs = true then timeV zs else 0) := ⟨_, rfl⟩
    obtain ⟨e1, he1⟩ : ∃ e1 : Int, e1 = (if okTime k f zs = true then 0 else 7) := ⟨_, rfl⟩
    rw [← hT, ← he1]
    have HTE := Lib.hid (And.intro hT he1)
    have HB5 := Lib.hid (HG4.out.2.1.trans (hb5.mono HG4.out.2.1.size))
    have HT2 := Lib.hid (rgetTime k f p n c zs w5 (HR.out.1.below HB5.out) HR.out.2 HCAP.out (by omega))
    have HG5 := Lib.hid (And.intro (HG4.out.1.keep hb5) (HG4.out.2.2.below hb5))
    clear hch hT he1 d0 d1 d2 HT1 hb5 HG4 hW4
    have d0 := (HC.out.keep HB5.out).cell (i := 0) rfl
    have d1 := (HC.out.keep HB5.out).cell (i := 1) rfl
    have d2 := (HC.out.keep HB5.out).cell (i := 2) rfl
    go_wp2_with fail
    refine HT2.out.mono ?_
    rintro e w6 ⟨hch, hb6⟩
    obtain rfl := hch.int
    rw [← HTE.out.1, ← HTE.out.2]
    have HB6 := Lib.hid (HB5.out.trans (hb6.mono HB5.out.size))
    have HG6 := Lib.hid (And.intro (HG5.out.1.keep hb6) (HG5.out.2.below hb6))
    have hin6 : Reads w6 (some ⟨g6, 0, none⟩) n zs := roomy_in HG6.out.2 HR.out.1.1
    have HU1 := Lib.hid (pgetCum k f (some ⟨g6, 0, none⟩) n (n + 16) zs w6 hin6 HR.out.2 (by omega) (by omega))
    clear hch d0 d1 d2 HT2 hb6 HG5 HB5 hin6
    have d0 := HG6.out.1.cell (i := 0) rfl
    have d1 := HG6.out.1.cell (i := 1) rfl
    have d2 := HG6.out.1.cell (i := 2) rfl
    go_wp2_with fail
    refine HU1.out.mono ?_
    rintro e w7 ⟨hch, hb7⟩
    obtain rfl := hch.int
    obtain ⟨U, hU⟩ : ∃ U, U = (if okCum k f zs = true then natAt zs 0 4 else 0) := ⟨_, rfl⟩
    obtain ⟨e2, he2⟩ : ∃ e2 : Int, e2 = (if okCum k f zs = true then 0 else 7) := ⟨_, rfl⟩
    rw [← hU, ← he2]
    have HUE := Lib.hid (And.intro hU he2)
    have HB7 := Lib.hid (HB6.out.trans (hb7.mono HB6.out.size))
    have HU2 := Lib.hid (rgetCum k f p n c zs w7 (HR.out.1.below HB7.out) HR.out.2 HCAP.out (by omega))
    have HG7 := Lib.hid (And.intro (HG6.out.1.keep hb7) (HG6.out.2.below hb7))
    clear hch hU he2 d0 d1 d2 HU1 hb7 HG6 HB6
    have d0 := (HC.out.keep HB7.out).cell (i := 0) rfl
    have d1 := (HC.out.keep HB7.out).cell (i := 1) rfl
    have d2 := (HC.out.keep HB7.out).cell (i := 2) rfl
    go_wp2_with fail
    refine HU2.out.mono ?_
    rintro e wr ⟨hch, hb8⟩
    obtain rfl := hch.int
    rw [← HUE.out.1, ← HUE.out.2]
    have HB8 := Lib.hid (HB7.out.trans (hb8.mono HB7.out.size))
    have HG8 := Lib.hid (HG7.out.1.keep hb8)
    have HQ := Lib.hid (And.intro (HG7.out.2.below hb8) True.intro)
    have HC8 := Lib.hid (HC.out.keep HB8.out)
    have HX8 := Lib.hid (HX.out.keep HB8.out)
    clear hch d0 d1 d2 HU2 hb8 HG7 HB7
    go_wp2_with fail
    refine wp_region_any (by kernel_rfl) ?_
    refine Vals.wpAny_goodW (LPr w wr kx at' cu T U e1 e2 k f p n c g g6) (fun _ => (fun W => Below wr.heap.size wr W)) [some 45, some 46, some 47, some 48, some 49, some 50, some 51, some 52, some 53, some 54, some 55, some 56, some 57, some 58, some 59, some 60, some 61, some 62, some 63, some 64, some 65, some 66, some 67, some 68, some 69, some 70, some 71, some 72, some 73, some 74, some 75, some 76, some 77, some 78, some 79, some 80, some 81, some 82, some 83, some 84, some 85, some 86, some 87, some 88, some 89, some 90, some 91, some 92, some 93, some 94, some 4] 95 _ _ rfl (by kernel_rfl) (by kernel_rfl) (by decide) ?step8 ?fin8 (Below.refl _ _).drew
    case step8 =>
      intro i o d ho hd listed a W hls hun hcl hJ hdf hdep hfr K hK
      match i, ho, hd with
      | 0, ho, hd =>
        have ho' := ho
        simp only [List.getElem?_toArray, List.getElem?_cons_zero, Option.some.injEq] at ho hd
        subst ho hd
        have r2 : a.eval (.tmp 2) = .pointer (some ⟨w.heap.size, 0, none⟩) := hfr 2 (by decide)
        rw [Vals.eval_tmp] at r2
        refine Vals.wpOp_run ho' rfl ?_
        clear hdep hfr ho' hdf hcl
        go_simp
        exact hK _ _ (fun _ _ h => h) hJ (fun _ => rfl)
      | 1, ho, hd =>
        have ho' := ho
        simp only [List.getElem?_toArray, List.getElem?_cons_zero, List.getElem?_cons_succ, Option.some.injEq] at ho hd
        subst ho hd
        have r45 : a.eval (.tmp 45) = .pointer (some ⟨w.heap.size, 0, none⟩) := (hdep ⟨0, .data⟩ (by simp) rfl).2 45 rfl
        rw [Vals.eval_tmp] at r45
        have c0 := (HX8.out.keep hJ).cell (i := 0) rfl
        refine Vals.wpOp_run ho' rfl ?_
        clear hdep hfr ho' hdf hcl
        go_simp
        exact hK _ _ (fun _ _ h => h) hJ (fun _ => rfl)
      | 2, ho, hd =>
        have ho' := ho
        simp only [List.getElem?_toArray, List.getElem?_cons_zero, List.getElem?_cons_succ, Option.some.injEq] at ho hd
        subst ho hd
        have r2 : a.eval (.tmp 2) = .pointer (some ⟨w.heap.size, 0, none⟩) := hfr 2 (by decide)
        rw [Vals.eval_tmp] at r2
        refine Vals.wpOp_run ho' rfl ?_
        clear hdep hfr ho' hdf hcl
        go_simp
        exact hK _ _ (fun _ _ h => h) hJ (fun _ => rfl)
      | 3, ho, hd =>
        have ho' := ho
        simp only [List.getElem?_toArray, List.getElem?_cons_zero, List.getElem?_cons_succ, Option.some.injEq] at ho hd
        subst ho hd
        have r47 : a.eval (.tmp 47) = .pointer (some ⟨w.heap.size, 1, none⟩) := (hdep ⟨2, .data⟩ (by simp) rfl).2 47 rfl
        rw [Vals.eval_tmp] at r47
        have c0 := (HX8.out.keep hJ).cell (i := 1) rfl
        refine Vals.wpOp_run ho' rfl ?_
        clear hdep hfr ho' hdf hcl
        go_simp
        exact hK _ _ (fun _ _ h => h) hJ (fun _ => rfl)
      | 4, ho, hd =>
        have ho' := ho
        simp only [List.getElem?_toArray, List.getElem?_cons_zero, List.getElem?_cons_succ, Option.some.injEq] at ho hd
        subst ho hd
        have r46 : a.eval (.tmp 46) = .int .u8 kx := (hdep ⟨1, .data⟩ (by simp) rfl).2 46 rfl
        rw [Vals.eval_tmp] at r46
        have r48 : a.eval (.tmp 48) = .int .i64 at' := (hdep ⟨3, .data⟩ (by simp) rfl).2 48 rfl
        rw [Vals.eval_tmp] at r48
        refine Vals.wpOp_run ho' rfl ?_
        clear hdep hfr ho' hdf hcl
        go_simp
        refine (pputTime kx at' W).mono ?_
        rintro e w' ⟨a1, c1, rfl, hb3, hr3⟩
        exact hK _ _ (LPr_mono hb3) (hJ.trans (hb3.mono hJ.size)) (fun _ => ⟨_, _, rfl, hr3.reads⟩)
      | 5, ho, hd =>
        have ho' := ho
        simp only [List.getElem?_toArray, List.getElem?_cons_zero, List.getElem?_cons_succ, Option.some.injEq] at ho hd
        subst ho hd
        have r2 : a.eval (.tmp 2) = .pointer (some ⟨w.heap.size, 0, none⟩) := hfr 2 (by decide)
        rw [Vals.eval_tmp] at r2
        refine Vals.wpOp_run ho' rfl ?_
        clear hdep hfr ho' hdf hcl
        go_simp
        exact hK _ _ (fun _ _ h => h) hJ (fun _ => rfl)
      | 6, ho, hd =>
        have ho' := ho
        simp only [List.getElem?_toArray, List.getElem?_cons_zero, List.getElem?_cons_succ, Option.some.injEq] at ho hd
        subst ho hd
        have r50 : a.eval (.tmp 50) = .pointer (some ⟨w.heap.size, 0, none⟩) := (hdep ⟨5, .data⟩ (by simp) rfl).2 50 rfl
        rw [Vals.eval_tmp] at r50
        have c0 := (HX8.out.keep hJ).cell (i := 0) rfl
        refine Vals.wpOp_run ho' rfl ?_
        clear hdep hfr ho' hdf hcl
        go_simp
        exact hK _ _ (fun _ _ h => h) hJ (fun _ => rfl)
      | 7, ho, hd =>
        have ho' := ho
        simp only [List.getElem?_toArray, List.getElem?_cons_zero, List.getElem?_cons_succ, Option.some.injEq] at ho hd
        subst ho hd
        have r2 : a.eval (.tmp 2) = .pointer (some ⟨w.heap.size, 0, none⟩) := hfr 2 (by decide)
        rw [Vals.eval_tmp] at r2
        refine Vals.wpOp_run ho' rfl ?_
        clear hdep hfr ho' hdf hcl
        go_simp
        exact hK _ _ (fun _ _ h => h) hJ (fun _ => rfl)
      | 8, ho, hd =>
        have ho' := ho
        simp only [List.getElem?_toArray, List.getElem?_cons_zero, List.getElem?_cons_succ, Option.some.injEq] at ho hd
        subst ho hd
        have r52 : a.eval (.tmp 52) = .pointer (some ⟨w.heap.size, 1, none⟩) := (hdep ⟨7, .data⟩ (by simp) rfl).2 52 rfl
        rw [Vals.eval_tmp] at r52
        have c0 := (HX8.out.keep hJ).cell (i := 1) rfl
        refine Vals.wpOp_run ho' rfl ?_
        clear hdep hfr ho' hdf hcl
        go_simp
        exact hK _ _ (fun _ _ h => h) hJ (fun _ => rfl)
      | 9, ho, hd =>
        have ho' := ho
        simp only [List.getElem?_toArray, List.getElem?_cons_zero, List.getElem?_cons_succ, Option.some.injEq] at ho hd
        subst ho hd
        have r51 : a.eval (.tmp 51) = .int .u8 kx := (hdep ⟨6, .data⟩ (by simp) rfl).2 51 rfl
        rw [Vals.eval_tmp] at r51
        have r53 : a.eval (.tmp 53) = .int .i64 at' := (hdep ⟨8, .data⟩ (by simp) rfl).2 53 rfl
        rw [Vals.eval_tmp] at r53
        refine Vals.wpOp_run ho' rfl ?_
        clear hdep hfr ho' hdf hcl
        go_simp
        refine (rputTime kx at' W).mono ?_
        rintro e w' ⟨a1, c1, rfl, hb3, hr3⟩
        exact hK _ _ (LPr_mono hb3) (hJ.trans (hb3.mono hJ.size)) (fun _ => ⟨_, _, rfl, hr3.reads⟩)
      | 10, ho, hd =>
        have ho' := ho
        simp only [List.getElem?_toArray, List.getElem?_cons_zero, List.getElem?_cons_succ, Option.some.injEq] at ho hd
        subst ho hd
        have g49 : ∃ a1_49 c1_49, a.eval (.tmp 49) = .agg #[.int .u8 kx, .int .u8 0, .slice a1_49 (timeB at').length c1_49] ∧ Reads W a1_49 (timeB at').length (timeB at') := (hdep ⟨4, .data⟩ (by simp) rfl).2 49 rfl
        rw [Vals.eval_tmp] at g49
        obtain ⟨a1_49, c1_49, r49, h49_0⟩ := g49
        have g54 : ∃ a1_54 c1_54, a.eval (.tmp 54) = .agg #[.int .u8 kx, .int .u8 0, .slice a1_54 (timeB at').length c1_54] ∧ Reads W a1_54 (timeB at').length (timeB at') := (hdep ⟨9, .data⟩ (by simp) rfl).2 54 rfl
        rw [Vals.eval_tmp] at g54
        obtain ⟨a1_54, c1_54, r54, h54_0⟩ := g54
        refine Vals.wpOp_run ho' rfl ?_
        clear hdep hfr ho' hdf hcl
        go_simp
        refine (rsame_yes kx 0 a1_49 a1_54 _ _ c1_49 c1_54 (timeB at') W h49_0 h54_0 ((((enc_byt _ _).append (enc_byt _ _)).append (enc_byt _ _))) (by simp [timeB])).mono ?_
        rintro e w' ⟨rfl, hb3⟩
        exact hK _ _ (LPr_mono hb3) (hJ.trans (hb3.mono hJ.size)) (fun _ => rfl)
      | 11, ho, hd =>
        have ho' := ho
        simp only [List.getElem?_toArray, List.getElem?_cons_zero, List.getElem?_cons_succ, Option.some.injEq] at ho hd
        subst ho hd
        have r55 : a.eval (.tmp 55) = .bool true := (hdep ⟨10, .data⟩ (by simp) rfl).2 55 rfl
        rw [Vals.eval_tmp] at r55
        refine Vals.wpOp_run ho' rfl ?_
        clear hdep hfr ho' hdf hcl
        go_simp
        exact hK _ _ (fun _ _ h => h) hJ (fun _ => rfl)
      | 12, ho, hd =>
        have ho' := ho
        simp only [List.getElem?_toArray, List.getElem?_cons_zero, List.getElem?_cons_succ, Option.some.injEq] at ho hd
        subst ho hd
        have hgd : a.eval (.tmp 56) = .bool true := (hdep ⟨11, .guard⟩ (by simp) rfl).2 56 rfl
        have r2 : a.eval (.tmp 2) = .pointer (some ⟨w.heap.size, 0, none⟩) := hfr 2 (by decide)
        rw [Vals.eval_tmp] at r2
        refine Vals.wpOp_run ho' (by unfold Region.wanted; simp only []; rw [Vals.yielded_of (d := 56) rfl hgd]; rfl) ?_
        clear hdep hfr ho' hdf hgd hcl
        go_simp
        exact hK _ _ (fun _ _ h => h) hJ (fun _ => rfl)
      | 13, ho, hd =>
        have ho' := ho
        simp only [List.getElem?_toArray, List.getElem?_cons_zero, List.getElem?_cons_succ, Option.some.injEq] at ho hd
        subst ho hd
        have hgd : a.eval (.tmp 56) = .bool true := (hdep ⟨11, .guard⟩ (by simp) rfl).2 56 rfl
        have r57 : a.eval (.tmp 57) = .pointer (some ⟨w.heap.size, 2, none⟩) := (hdep ⟨12, .data⟩ (by simp) rfl).2 57 rfl
        rw [Vals.eval_tmp] at r57
        have c0 := (HX8.out.keep hJ).cell (i := 2) rfl
        refine Vals.wpOp_run ho' (by unfold Region.wanted; simp only []; rw [Vals.yielded_of (d := 56) rfl hgd]; rfl) ?_
        clear hdep hfr ho' hdf hgd hcl
        go_simp
        exact hK _ _ (fun _ _ h => h) hJ (fun _ => rfl)
      | 14, ho, hd =>
        have ho' := ho
        simp only [List.getElem?_toArray, List.getElem?_cons_zero, List.getElem?_cons_succ, Option.some.injEq] at ho hd
        subst ho hd
        have hgd : a.eval (.tmp 56) = .bool true := (hdep ⟨11, .guard⟩ (by simp) rfl).2 56 rfl
        have r58 : a.eval (.tmp 58) = .int .u32 cu := (hdep ⟨13, .data⟩ (by simp) rfl).2 58 rfl
        rw [Vals.eval_tmp] at r58
        refine Vals.wpOp_run ho' (by unfold Region.wanted; simp only []; rw [Vals.yielded_of (d := 56) rfl hgd]; rfl) ?_
        clear hdep hfr ho' hdf hgd hcl
        go_simp
        refine (pputCum cu W hc0 hc1).mono ?_
        rintro e w' ⟨a1, c1, rfl, hb3, hr3⟩
        exact hK _ _ (LPr_mono hb3) (hJ.trans (hb3.mono hJ.size)) (fun _ => ⟨_, _, rfl, hr3.reads⟩)
      | 15, ho, hd =>
        have ho' := ho
        simp only [List.getElem?_toArray, List.getElem?_cons_zero, List.getElem?_cons_succ, Option.some.injEq] at ho hd
        subst ho hd
        have hgd : a.eval (.tmp 56) = .bool true := (hdep ⟨11, .guard⟩ (by simp) rfl).2 56 rfl
        have r2 : a.eval (.tmp 2) = .pointer (some ⟨w.heap.size, 0, none⟩) := hfr 2 (by decide)
        rw [Vals.eval_tmp] at r2
        refine Vals.wpOp_run ho' (by unfold Region.wanted; simp only []; rw [Vals.yielded_of (d := 56) rfl hgd]; rfl) ?_
        clear hdep hfr ho' hdf hgd hcl
        go_simp
        exact hK _ _ (fun _ _ h => h) hJ (fun _ => rfl)
      | 16, ho, hd =>
        have ho' := ho
        simp only [List.getElem?_toArray, List.getElem?_cons_zero, List.getElem?_cons_succ, Option.some.injEq] at ho hd
        subst ho hd
        have hgd : a.eval (.tmp 56) = .bool true := (hdep ⟨11, .guard⟩ (by simp) rfl).2 56 rfl
        have r60 : a.eval (.tmp 60) = .pointer (some ⟨w.heap.size, 2, none⟩) := (hdep ⟨15, .data⟩ (by simp) rfl).2 60 rfl
        rw [Vals.eval_tmp] at r60
        have c0 := (HX8.out.keep hJ).cell (i := 2) rfl
        refine Vals.wpOp_run ho' (by unfold Region.wanted; simp only []; rw [Vals.yielded_of (d := 56) rfl hgd]; rfl) ?_
        clear hdep hfr ho' hdf hgd hcl
        go_simp
        exact hK _ _ (fun _ _ h => h) hJ (fun _ => rfl)
      | 17, ho, hd =>
        have ho' := ho
        simp only [List.getElem?_toArray, List.getElem?_cons_zero, List.getElem?_cons_succ, Option.some.injEq] at ho hd
        subst ho hd
        have hgd : a.eval (.tmp 56) = .bool true := (hdep ⟨11, .guard⟩ (by simp) rfl).2 56 rfl
        have r61 : a.eval (.tmp 61) = .int .u32 cu := (hdep ⟨16, .data⟩ (by simp) rfl).2 61 rfl
        rw [Vals.eval_tmp] at r61
        refine Vals.wpOp_run ho' (by unfold Region.wanted; simp only []; rw [Vals.yielded_of (d := 56) rfl hgd]; rfl) ?_
        clear hdep hfr ho' hdf hgd hcl
        go_simp
        refine (rputCum cu W hc0 hc1).mono ?_
        rintro e w' ⟨a1, c1, rfl, hb3, hr3⟩
        exact hK _ _ (LPr_mono hb3) (hJ.trans (hb3.mono hJ.size)) (fun _ => ⟨_, _, rfl, hr3.reads⟩)
      | 18, ho, hd =>
        have ho' := ho
        simp only [List.getElem?_toArray, List.getElem?_cons_zero, List.getElem?_cons_succ, Option.some.injEq] at ho hd
        subst ho hd
        have hgd : a.eval (.tmp 56) = .bool true := (hdep ⟨11, .guard⟩ (by simp) rfl).2 56 rfl
        have g59 : ∃ a1_59 c1_59, a.eval (.tmp 59) = .agg #[.int .u8 7, .int .u8 0, .slice a1_59 (enc cu 4).length c1_59] ∧ Reads W a1_59 (enc cu 4).length (enc cu 4) := (hdep ⟨14, .data⟩ (by simp) rfl).2 59 rfl
        rw [Vals.eval_tmp] at g59
        obtain ⟨a1_59, c1_59, r59, h59_0⟩ := g59
        have g62 : ∃ a1_62 c1_62, a.eval (.tmp 62) = .agg #[.int .u8 7, .int .u8 0, .slice a1_62 (enc cu 4).length c1_62] ∧ Reads W a1_62 (enc cu 4).length (enc cu 4) := (hdep ⟨17, .data⟩ (by simp) rfl).2 62 rfl
        rw [Vals.eval_tmp] at g62
        obtain ⟨a1_62, c1_62, r62, h62_0⟩ := g62
        refine Vals.wpOp_run ho' (by unfold Region.wanted; simp only []; rw [Vals.yielded_of (d := 56) rfl hgd]; rfl) ?_
        clear hdep hfr ho' hdf hgd hcl
        go_simp
        refine (rsame_yes 7 0 a1_59 a1_62 _ _ c1_59 c1_62 (enc cu 4) W h59_0 h62_0 (enc_byt _ _) (by simp [timeB])).mono ?_
        rintro e w' ⟨rfl, hb3⟩
        exact hK _ _ (LPr_mono hb3) (hJ.trans (hb3.mono hJ.size)) (fun _ => rfl)
      | 19, ho, hd =>
        have ho' := ho
        simp only [List.getElem?_toArray, List.getElem?_cons_zero, List.getElem?_cons_succ, Option.some.injEq] at ho hd
        subst ho hd
        have r56 : a.eval (.tmp 56) = .bool true := (hdep ⟨11, .data⟩ (by simp) rfl).2 56 rfl
        rw [Vals.eval_tmp] at r56
        have r63 : a.eval (.tmp 63) = .bool true := (hdep ⟨18, .data⟩ (by simp) rfl).2 63 rfl
        rw [Vals.eval_tmp] at r63
        refine Vals.wpOp_run ho' rfl ?_
        clear hdep hfr ho' hdf hcl
        go_simp
        exact hK _ _ (fun _ _ h => h) hJ (fun _ => rfl)
      | 20, ho, hd =>
        have ho' := ho
        simp only [List.getElem?_toArray, List.getElem?_cons_zero, List.getElem?_cons_succ, Option.some.injEq] at ho hd
        subst ho hd
        have r64 : a.eval (.tmp 64) = .bool true := (hdep ⟨19, .data⟩ (by simp) rfl).2 64 rfl
        rw [Vals.eval_tmp] at r64
        refine Vals.wpOp_run ho' rfl ?_
        clear hdep hfr ho' hdf hcl
        go_simp
        exact hK _ _ (fun _ _ h => h) hJ (fun _ => rfl)
      | 21, ho, hd =>
        have ho' := ho
        simp only [List.getElem?_toArray, List.getElem?_cons_zero, List.getElem?_cons_succ, Option.some.injEq] at ho hd
        subst ho hd
        have hgd : a.eval (.tmp 65) = .bool true := (hdep ⟨20, .guard⟩ (by simp) rfl).2 65 rfl
        have r6 : a.eval (.tmp 6) = .int .i64 T := hfr 6 (by decide)
        rw [Vals.eval_tmp] at r6
        refine Vals.wpOp_run ho' (by unfold Region.wanted; simp only []; rw [Vals.yielded_of (d := 65) rfl hgd]; rfl) ?_
        clear hdep hfr ho' hdf hgd hcl
        go_simp
        exact hK _ _ (fun _ _ h => h) hJ (fun _ => rfl)
      | 22, ho, hd =>
        have ho' := ho
        simp only [List.getElem?_toArray, List.getElem?_cons_zero, List.getElem?_cons_succ, Option.some.injEq] at ho hd
        subst ho hd
        have hgd : a.eval (.tmp 65) = .bool true := (hdep ⟨20, .guard⟩ (by simp) rfl).2 65 rfl
        have r8 : a.eval (.tmp 8) = .int .i64 T := hfr 8 (by decide)
        rw [Vals.eval_tmp] at r8
        refine Vals.wpOp_run ho' (by unfold Region.wanted; simp only []; rw [Vals.yielded_of (d := 65) rfl hgd]; rfl) ?_
        clear hdep hfr ho' hdf hgd hcl
        go_simp
        exact hK _ _ (fun _ _ h => h) hJ (fun _ => rfl)
      | 23, ho, hd =>
        have ho' := ho
        simp only [List.getElem?_toArray, List.getElem?_cons_zero, List.getElem?_cons_succ, Option.some.injEq] at ho hd
        subst ho hd
        have hgd : a.eval (.tmp 65) = .bool true := (hdep ⟨20, .guard⟩ (by simp) rfl).2 65 rfl
        have r66 : a.eval (.tmp 66) = .int .i64 T := (hdep ⟨21, .data⟩ (by simp) rfl).2 66 rfl
        rw [Vals.eval_tmp] at r66
        have r67 : a.eval (.tmp 67) = .int .i64 T := (hdep ⟨22, .data⟩ (by simp) rfl).2 67 rfl
        rw [Vals.eval_tmp] at r67
        refine Vals.wpOp_run ho' (by unfold Region.wanted; simp only []; rw [Vals.yielded_of (d := 65) rfl hgd]; rfl) ?_
        clear hdep hfr ho' hdf hgd hcl
        go_simp
        exact hK _ _ (fun _ _ h => h) hJ (fun _ => rfl)
      | 24, ho, hd =>
        have ho' := ho
        simp only [List.getElem?_toArray, List.getElem?_cons_zero, List.getElem?_cons_succ, Option.some.injEq] at ho hd
        subst ho hd
        have r65 : a.eval (.tmp 65) = .bool true := (hdep ⟨20, .data⟩ (by simp) rfl).2 65 rfl
        rw [Vals.eval_tmp] at r65
        have r68 : a.eval (.tmp 68) = .bool true := (hdep ⟨23, .data⟩ (by simp) rfl).2 68 rfl
        rw [Vals.eval_tmp] at r68
        refine Vals.wpOp_run ho' rfl ?_
        clear hdep hfr ho' hdf hcl
        go_simp
        exact hK _ _ (fun _ _ h => h) hJ (fun _ => rfl)
      | 25, ho, hd =>
        have ho' := ho
        simp only [List.getElem?_toArray, List.getElem?_cons_zero, List.getElem?_cons_succ, Option.some.injEq] at ho hd
        subst ho hd
        have r69 : a.eval (.tmp 69) = .bool true := (hdep ⟨24, .data⟩ (by simp) rfl).2 69 rfl
        rw [Vals.eval_tmp] at r69
        refine Vals.wpOp_run ho' rfl ?_
        clear hdep hfr ho' hdf hcl
        go_simp
        exact hK _ _ (fun _ _ h => h) hJ (fun _ => rfl)
      | 26, ho, hd =>
        have ho' := ho
        simp only [List.getElem?_toArray, List.getElem?_cons_zero, List.getElem?_cons_succ, Option.some.injEq] at ho hd
        subst ho hd
        have hgd : a.eval (.tmp 70) = .bool true := (hdep ⟨25, .guard⟩ (by simp) rfl).2 70 rfl
        have r7 : a.eval (.tmp 7) = .int .i64 e1 := hfr 7 (by decide)
        rw [Vals.eval_tmp] at r7
        refine Vals.wpOp_run ho' (by unfold Region.wanted; simp only []; rw [Vals.yielded_of (d := 70) rfl hgd]; rfl) ?_
        clear hdep hfr ho' hdf hgd hcl
        go_simp
        exact hK _ _ (fun _ _ h => h) hJ (fun _ => rfl)
      | 27, ho, hd =>
        have ho' := ho
        simp only [List.getElem?_toArray, List.getElem?_cons_zero, List.getElem?_cons_succ, Option.some.injEq] at ho hd
        subst ho hd
        have hgd : a.eval (.tmp 70) = .bool true := (hdep ⟨25, .guard⟩ (by simp) rfl).2 70 rfl
        have r9 : a.eval (.tmp 9) = .int .i64 e1 := hfr 9 (by decide)
        rw [Vals.eval_tmp] at r9
        refine Vals.wpOp_run ho' (by unfold Region.wanted; simp only []; rw [Vals.yielded_of (d := 70) rfl hgd]; rfl) ?_
        clear hdep hfr ho' hdf hgd hcl
        go_simp
        exact hK _ _ (fun _ _ h => h) hJ (fun _ => rfl)
      | 28, ho, hd =>
        have ho' := ho
        simp only [List.getElem?_toArray, List.getElem?_cons_zero, List.getElem?_cons_succ, Option.some.injEq] at ho hd
        subst ho hd
        have hgd : a.eval (.tmp 70) = .bool true := (hdep ⟨25, .guard⟩ (by simp) rfl).2 70 rfl
        have r71 : a.eval (.tmp 71) = .int .i64 e1 := (hdep ⟨26, .data⟩ (by simp) rfl).2 71 rfl
        rw [Vals.eval_tmp] at r71
        have r72 : a.eval (.tmp 72) = .int .i64 e1 := (hdep ⟨27, .data⟩ (by simp) rfl).2 72 rfl
        rw [Vals.eval_tmp] at r72
        refine Vals.wpOp_run ho' (by unfold Region.wanted; simp only []; rw [Vals.yielded_of (d := 70) rfl hgd]; rfl) ?_
        clear hdep hfr ho' hdf hgd hcl
        go_simp
        exact hK _ _ (fun _ _ h => h) hJ (fun _ => rfl)
      | 29, ho, hd =>
        have ho' := ho
        simp only [List.getElem?_toArray, List.getElem?_cons_zero, List.getElem?_cons_succ, Option.some.injEq] at ho hd
        subst ho hd
        have r70 : a.eval (.tmp 70) = .bool true := (hdep ⟨25, .data⟩ (by simp) rfl).2 70 rfl
        rw [Vals.eval_tmp] at r70
        have r73 : a.eval (.tmp 73) = .bool true := (hdep ⟨28, .data⟩ (by simp) rfl).2 73 rfl
        rw [Vals.eval_tmp] at r73
        refine Vals.wpOp_run ho' rfl ?_
        clear hdep hfr ho' hdf hcl
        go_simp
        exact hK _ _ (fun _ _ h => h) hJ (fun _ => rfl)
      | 30, ho, hd =>
        have ho' := ho
        simp only [List.getElem?_toArray, List.getElem?_cons_zero, List.getElem?_cons_succ, Option.some.injEq] at ho hd
        subst ho hd
        have r74 : a.eval (.tmp 74) = .bool true := (hdep ⟨29, .data⟩ (by simp) rfl).2 74 rfl
        rw [Vals.eval_tmp] at r74
        refine Vals.wpOp_run ho' rfl ?_
        clear hdep hfr ho' hdf hcl
        go_simp
        exact hK _ _ (fun _ _ h => h) hJ (fun _ => rfl)
      | 31, ho, hd =>
        have ho' := ho
        simp only [List.getElem?_toArray, List.getElem?_cons_zero, List.getElem?_cons_succ, Option.some.injEq] at ho hd
        subst ho hd
        have hgd : a.eval (.tmp 75) = .bool true := (hdep ⟨30, .guard⟩ (by simp) rfl).2 75 rfl
        have r10 : a.eval (.tmp 10) = .int .u32 U := hfr 10 (by decide)
        rw [Vals.eval_tmp] at r10
        refine Vals.wpOp_run ho' (by unfold Region.wanted; simp only []; rw [Vals.yielded_of (d := 75) rfl hgd]; rfl) ?_
        clear hdep hfr ho' hdf hgd hcl
        go_simp
        exact hK _ _ (fun _ _ h => h) hJ (fun _ => rfl)
      | 32, ho, hd =>
        have ho' := ho
        simp only [List.getElem?_toArray, List.getElem?_cons_zero, List.getElem?_cons_succ, Option.some.injEq] at ho hd
        subst ho hd
        have hgd : a.eval (.tmp 75) = .bool true := (hdep ⟨30, .guard⟩ (by simp) rfl).2 75 rfl
        have r12 : a.eval (.tmp 12) = .int .u32 U := hfr 12 (by decide)
        rw [Vals.eval_tmp] at r12
        refine Vals.wpOp_run ho' (by unfold Region.wanted; simp only []; rw [Vals.yielded_of (d := 75) rfl hgd]; rfl) ?_
        clear hdep hfr ho' hdf hgd hcl
        go_simp
        exact hK _ _ (fun _ _ h => h) hJ (fun _ => rfl)
      | 33, ho, hd =>
        have ho' := ho
        simp only [List.getElem?_toArray, List.getElem?_cons_zero, List.getElem?_cons_succ, Option.some.injEq] at ho hd
        subst ho hd
        have hgd : a.eval (.tmp 75) = .bool true := (hdep ⟨30, .guard⟩ (by simp) rfl).2 75 rfl
        have r76 : a.eval (.tmp 76) = .int .u32 U := (hdep ⟨31, .data⟩ (by simp) rfl).2 76 rfl
        rw [Vals.eval_tmp] at r76
        have r77 : a.eval (.tmp 77) = .int .u32 U := (hdep ⟨32, .data⟩ (by simp) rfl).2 77 rfl
        rw [Vals.eval_tmp] at r77
        refine Vals.wpOp_run ho' (by unfold Region.wanted; simp only []; rw [Vals.yielded_of (d := 75) rfl hgd]; rfl) ?_
        clear hdep hfr ho' hdf hgd hcl
        go_simp
        exact hK _ _ (fun _ _ h => h) hJ (fun _ => rfl)
      | 34, ho, hd =>
        have ho' := ho
        simp only [List.getElem?_toArray, List.getElem?_cons_zero, List.getElem?_cons_succ, Option.some.injEq] at ho hd
        subst ho hd
        have r75 : a.eval (.tmp 75) = .bool true := (hdep ⟨30, .data⟩ (by simp) rfl).2 75 rfl
        rw [Vals.eval_tmp] at r75
        have r78 : a.eval (.tmp 78) = .bool true := (hdep ⟨33, .data⟩ (by simp) rfl).2 78 rfl
        rw [Vals.eval_tmp] at r78
        refine Vals.wpOp_run ho' rfl ?_
        clear hdep hfr ho' hdf hcl
        go_simp
        exact hK _ _ (fun _ _ h => h) hJ (fun _ => rfl)
      | 35, ho, hd =>
        have ho' := ho
        simp only [List.getElem?_toArray, List.getElem?_cons_zero, List.getElem?_cons_succ, Option.some.injEq] at ho hd
        subst ho hd
        have r79 : a.eval (.tmp 79) = .bool true := (hdep ⟨34, .data⟩ (by simp) rfl).2 79 rfl
        rw [Vals.eval_tmp] at r79
        refine Vals.wpOp_run ho' rfl ?_
        clear hdep hfr ho' hdf hcl
        go_simp
        exact hK _ _ (fun _ _ h => h) hJ (fun _ => rfl)
      | 36, ho, hd =>
        have ho' := ho
        simp only [List.getElem?_toArray, List.getElem?_cons_zero, List.getElem?_cons_succ, Option.some.injEq] at ho hd
        subst ho hd
        have hgd : a.eval (.tmp 80) = .bool true := (hdep ⟨35, .guard⟩ (by simp) rfl).2 80 rfl
        have r11 : a.eval (.tmp 11) = .int .i64 e2 := hfr 11 (by decide)
        rw [Vals.eval_tmp] at r11
        refine Vals.wpOp_run ho' (by unfold Region.wanted; simp only []; rw [Vals.yielded_of (d := 80) rfl hgd]; rfl) ?_
        clear hdep hfr ho' hdf hgd hcl
        go_simp
        exact hK _ _ (fun _ _ h => h) hJ (fun _ => rfl)
      | 37, ho, hd =>
        have ho' := ho
        simp only [List.getElem?_toArray, List.getElem?_cons_zero, List.getElem?_cons_succ, Option.some.injEq] at ho hd
        subst ho hd
        have hgd : a.eval (.tmp 80) = .bool true := (hdep ⟨35, .guard⟩ (by simp) rfl).2 80 rfl
        have r13 : a.eval (.tmp 13) = .int .i64 e2 := hfr 13 (by decide)
        rw [Vals.eval_tmp] at r13
        refine Vals.wpOp_run ho' (by unfold Region.wanted; simp only []; rw [Vals.yielded_of (d := 80) rfl hgd]; rfl) ?_
        clear hdep hfr ho' hdf hgd hcl
        go_simp
        exact hK _ _ (fun _ _ h => h) hJ (fun _ => rfl)
      | 38, ho, hd =>
        have ho' := ho
        simp only [List.getElem?_toArray, List.getElem?_cons_zero, List.getElem?_cons_succ, Option.some.injEq] at ho hd
        subst ho hd
        have hgd : a.eval (.tmp 80) = .bool true := (hdep ⟨35, .guard⟩ (by simp) rfl).2 80 rfl
        have r81 : a.eval (.tmp 81) = .int .i64 e2 := (hdep ⟨36, .data⟩ (by simp) rfl).2 81 rfl
        rw [Vals.eval_tmp] at r81
        have r82 : a.eval (.tmp 82) = .int .i64 e2 := (hdep ⟨37, .data⟩ (by simp) rfl).2 82 rfl
        rw [Vals.eval_tmp] at r82
        refine Vals.wpOp_run ho' (by unfold Region.wanted; simp only []; rw [Vals.yielded_of (d := 80) rfl hgd]; rfl) ?_
        clear hdep hfr ho' hdf hgd hcl
        go_simp
        exact hK _ _ (fun _ _ h => h) hJ (fun _ => rfl)
      | 39, ho, hd =>
        have ho' := ho
        simp only [List.getElem?_toArray, List.getElem?_cons_zero, List.getElem?_cons_succ, Option.some.injEq] at ho hd
        subst ho hd
        have r80 : a.eval (.tmp 80) = .bool true := (hdep ⟨35, .data⟩ (by simp) rfl).2 80 rfl
        rw [Vals.eval_tmp] at r80
        have r83 : a.eval (.tmp 83) = .bool true := (hdep ⟨38, .data⟩ (by simp) rfl).2 83 rfl
        rw [Vals.eval_tmp] at r83
        refine Vals.wpOp_run ho' rfl ?_
        clear hdep hfr ho' hdf hcl
        go_simp
        exact hK _ _ (fun _ _ h => h) hJ (fun _ => rfl)
      | 40, ho, hd =>
        have ho' := ho
        simp only [List.getElem?_toArray, List.getElem?_cons_zero, List.getElem?_cons_succ, Option.some.injEq] at ho hd
        subst ho hd
        have r84 : a.eval (.tmp 84) = .bool true := (hdep ⟨39, .data⟩ (by simp) rfl).2 84 rfl
        rw [Vals.eval_tmp] at r84
        refine Vals.wpOp_run ho' rfl ?_
        clear hdep hfr ho' hdf hcl
        go_simp
        exact hK _ _ (fun _ _ h => h) hJ (fun _ => rfl)
      | 41, ho, hd =>
        have ho' := ho
        simp only [List.getElem?_toArray, List.getElem?_cons_zero, List.getElem?_cons_succ, Option.some.injEq] at ho hd
        subst ho hd
        have hgd : a.eval (.tmp 85) = .bool true := (hdep ⟨40, .guard⟩ (by simp) rfl).2 85 rfl
        have r5 : a.eval (.tmp 5) = .pointer (some ⟨g, 0, none⟩) := hfr 5 (by decide)
        rw [Vals.eval_tmp] at r5
        refine Vals.wpOp_run ho' (by unfold Region.wanted; simp only []; rw [Vals.yielded_of (d := 85) rfl hgd]; rfl) ?_
        clear hdep hfr ho' hdf hgd hcl
        go_simp
        exact hK _ _ (fun _ _ h => h) hJ (fun _ => rfl)
      | 42, ho, hd =>
        have ho' := ho
        simp only [List.getElem?_toArray, List.getElem?_cons_zero, List.getElem?_cons_succ, Option.some.injEq] at ho hd
        subst ho hd
        have hgd : a.eval (.tmp 85) = .bool true := (hdep ⟨40, .guard⟩ (by simp) rfl).2 85 rfl
        have r86 : a.eval (.tmp 86) = .pointer (some ⟨g, 2, none⟩) := (hdep ⟨41, .data⟩ (by simp) rfl).2 86 rfl
        rw [Vals.eval_tmp] at r86
        have c0 := (HG8.out.keep hJ).cell (i := 2) rfl
        refine Vals.wpOp_run ho' (by unfold Region.wanted; simp only []; rw [Vals.yielded_of (d := 85) rfl hgd]; rfl) ?_
        clear hdep hfr ho' hdf hgd hcl
        go_simp
        exact hK _ _ (fun _ _ h => h) hJ (fun _ => rfl)
      | 43, ho, hd =>
        have ho' := ho
        simp only [List.getElem?_toArray, List.getElem?_cons_zero, List.getElem?_cons_succ, Option.some.injEq] at ho hd
        subst ho hd
        have hgd : a.eval (.tmp 85) = .bool true := (hdep ⟨40, .guard⟩ (by simp) rfl).2 85 rfl
        have r3 : a.eval (.tmp 3) = .pointer (some ⟨w.heap.size + 1, 0, none⟩) := hfr 3 (by decide)
        rw [Vals.eval_tmp] at r3
        refine Vals.wpOp_run ho' (by unfold Region.wanted; simp only []; rw [Vals.yielded_of (d := 85) rfl hgd]; rfl) ?_
        clear hdep hfr ho' hdf hgd hcl
        go_simp
        exact hK _ _ (fun _ _ h => h) hJ (fun _ => rfl)
      | 44, ho, hd =>
        have ho' := ho
        simp only [List.getElem?_toArray, List.getElem?_cons_zero, List.getElem?_cons_succ, Option.some.injEq] at ho hd
        subst ho hd
        have hgd : a.eval (.tmp 85) = .bool true := (hdep ⟨40, .guard⟩ (by simp) rfl).2 85 rfl
        have r88 : a.eval (.tmp 88) = .pointer (some ⟨w.heap.size + 1, 2, none⟩) := (hdep ⟨43, .data⟩ (by simp) rfl).2 88 rfl
        rw [Vals.eval_tmp] at r88
        have c0 := (HC8.out.keep hJ).cell (i := 2) rfl
        refine Vals.wpOp_run ho' (by unfold Region.wanted; simp only []; rw [Vals.yielded_of (d := 85) rfl hgd]; rfl) ?_
        clear hdep hfr ho' hdf hgd hcl
        go_simp
        exact hK _ _ (fun _ _ h => h) hJ (fun _ => rfl)
      | 45, ho, hd =>
        have ho' := ho
        simp only [List.getElem?_toArray, List.getElem?_cons_zero, List.getElem?_cons_succ, Option.some.injEq] at ho hd
        subst ho hd
        have hgd : a.eval (.tmp 85) = .bool true := (hdep ⟨40, .guard⟩ (by simp) rfl).2 85 rfl
        have r87 : a.eval (.tmp 87) = .slice (some ⟨g6, 0, none⟩) n (n + 16) := (hdep ⟨42, .data⟩ (by simp) rfl).2 87 rfl
        rw [Vals.eval_tmp] at r87
        have r89 : a.eval (.tmp 89) = .slice p n c := (hdep ⟨44, .data⟩ (by simp) rfl).2 89 rfl
        rw [Vals.eval_tmp] at r89
        refine Vals.wpOp_run ho' (by unfold Region.wanted; simp only []; rw [Vals.yielded_of (d := 85) rfl hgd]; rfl) ?_
        clear hdep hfr ho' hdf hgd hcl
        go_simp
        refine (kept_yes p g6 n c zs W (HQ.out.1.below hJ) (HR.out.1.below (HB8.out.trans (hJ.mono HB8.out.size))) HR.out.2 (by omega)).mono ?_
        rintro e w' ⟨rfl, hb3⟩
        exact hK _ _ (LPr_mono hb3) (hJ.trans (hb3.mono hJ.size)) (fun _ => rfl)
      | 46, ho, hd =>
        have ho' := ho
        simp only [List.getElem?_toArray, List.getElem?_cons_zero, List.getElem?_cons_succ, Option.some.injEq] at ho hd
        subst ho hd
        have r85 : a.eval (.tmp 85) = .bool true := (hdep ⟨40, .data⟩ (by simp) rfl).2 85 rfl
        rw [Vals.eval_tmp] at r85
        have r90 : a.eval (.tmp 90) = .bool true := (hdep ⟨45, .data⟩ (by simp) rfl).2 90 rfl
        rw [Vals.eval_tmp] at r90
        refine Vals.wpOp_run ho' rfl ?_
        clear hdep hfr ho' hdf hcl
        go_simp
        exact hK _ _ (fun _ _ h => h) hJ (fun _ => rfl)
      | 47, ho, hd =>
        have ho' := ho
        simp only [List.getElem?_toArray, List.getElem?_cons_zero, List.getElem?_cons_succ, Option.some.injEq] at ho hd
        subst ho hd
        have r91 : a.eval (.tmp 91) = .bool true := (hdep ⟨46, .data⟩ (by simp) rfl).2 91 rfl
        rw [Vals.eval_tmp] at r91
        refine Vals.wpOp_run ho' rfl ?_
        clear hdep hfr ho' hdf hcl
        go_simp
        exact hK _ _ (fun _ _ h => h) hJ (fun _ => rfl)
      | 48, ho, hd =>
        have ho' := ho
        simp only [List.getElem?_toArray, List.getElem?_cons_zero, List.getElem?_cons_succ, Option.some.injEq] at ho hd
        subst ho hd
        have hgd : a.eval (.tmp 92) = .bool true := (hdep ⟨47, .guard⟩ (by simp) rfl).2 92 rfl
        refine Vals.wpOp_run ho' (by unfold Region.wanted; simp only []; rw [Vals.yielded_of (d := 92) rfl hgd]; rfl) ?_
        clear hdep hfr ho' hdf hgd hcl
        go_simp
        refine (works_any W).mono ?_
        rintro e w' ⟨rfl, hb3⟩
        exact hK _ _ (LPr_mono hb3) (hJ.trans (hb3.mono hJ.size)) (fun _ => rfl)
      | 49, ho, hd =>
        have ho' := ho
        simp only [List.getElem?_toArray, List.getElem?_cons_zero, List.getElem?_cons_succ, Option.some.injEq] at ho hd
        subst ho hd
        have r92 : a.eval (.tmp 92) = .bool true := (hdep ⟨47, .data⟩ (by simp) rfl).2 92 rfl
        rw [Vals.eval_tmp] at r92
        have r93 : a.eval (.tmp 93) = .bool true := (hdep ⟨48, .data⟩ (by simp) rfl).2 93 rfl
        rw [Vals.eval_tmp] at r93
        refine Vals.wpOp_run ho' rfl ?_
        clear hdep hfr ho' hdf hcl
        go_simp
        exact hK _ _ (fun _ _ h => h) hJ (fun _ => rfl)
      | 50, ho, hd =>
        have ho' := ho
        simp only [List.getElem?_toArray, List.getElem?_cons_zero, List.getElem?_cons_succ, Option.some.injEq] at ho hd
        subst ho hd
        have r94 : a.eval (.tmp 94) = .bool true := (hdep ⟨49, .data⟩ (by simp) rfl).2 94 rfl
        rw [Vals.eval_tmp] at r94
        refine Vals.wpOp_run ho' rfl ?_
        clear hdep hfr ho' hdf hcl
        go_simp
        exact hK _ _ (fun _ _ h => h) hJ (fun _ => rfl)
      | i + 51, ho, hd => simp at ho
    case fin8 =>
      intro listed W fq hall hJ hG
      have q0 : fq 45 = .pointer (some ⟨w.heap.size, 0, none⟩) := hG 0 45 rfl
      have q1 : fq 46 = .int .u8 kx := hG 1 46 rfl
      have q2 : fq 47 = .pointer (some ⟨w.heap.size, 1, none⟩) := hG 2 47 rfl
      have q3 : fq 48 = .int .i64 at' := hG 3 48 rfl
      obtain ⟨a1_49, c1_49, q4, hq49_0⟩ : ∃ a1_49 c1_49, fq 49 = .agg #[.int .u8 kx, .int .u8 0, .slice a1_49 (timeB at').length c1_49] ∧ Reads W a1_49 (timeB at').length (timeB at') := hG 4 49 rfl
      have q5 : fq 50 = .pointer (some ⟨w.heap.size, 0, none⟩) := hG 5 50 rfl
      have q6 : fq 51 = .int .u8 kx := hG 6 51 rfl
      have q7 : fq 52 = .pointer (some ⟨w.heap.size, 1, none⟩) := hG 7 52 rfl
      have q8 : fq 53 = .int .i64 at' := hG 8 53 rfl
      obtain ⟨a1_54, c1_54, q9, hq54_0⟩ : ∃ a1_54 c1_54, fq 54 = .agg #[.int .u8 kx, .int .u8 0, .slice a1_54 (timeB at').length c1_54] ∧ Reads W a1_54 (timeB at').length (timeB at') := hG 9 54 rfl
      have q10 : fq 55 = .bool true := hG 10 55 rfl
      have q11 : fq 56 = .bool true := hG 11 56 rfl
      have q12 : fq 57 = .pointer (some ⟨w.heap.size, 2, none⟩) := hG 12 57 rfl
      have q13 : fq 58 = .int .u32 cu := hG 13 58 rfl
      obtain ⟨a1_59, c1_59, q14, hq59_0⟩ : ∃ a1_59 c1_59, fq 59 = .agg #[.int .u8 7, .int .u8 0, .slice a1_59 (enc cu 4).length c1_59] ∧ Reads W a1_59 (enc cu 4).length (enc cu 4) := hG 14 59 rfl
      have q15 : fq 60 = .pointer (some ⟨w.heap.size, 2, none⟩) := hG 15 60 rfl
      have q16 : fq 61 = .int .u32 cu := hG 16 61 rfl
      obtain ⟨a1_62, c1_62, q17, hq62_0⟩ : ∃ a1_62 c1_62, fq 62 = .agg #[.int .u8 7, .int .u8 0, .slice a1_62 (enc cu 4).length c1_62] ∧ Reads W a1_62 (enc cu 4).length (enc cu 4) := hG 17 62 rfl
      have q18 : fq 63 = .bool true := hG 18 63 rfl
      have q19 : fq 64 = .bool true := hG 19 64 rfl
      have q20 : fq 65 = .bool true := hG 20 65 rfl
      have q21 : fq 66 = .int .i64 T := hG 21 66 rfl
      have q22 : fq 67 = .int .i64 T := hG 22 67 rfl
      have q23 : fq 68 = .bool true := hG 23 68 rfl
      have q24 : fq 69 = .bool true := hG 24 69 rfl
      have q25 : fq 70 = .bool true := hG 25 70 rfl
      have q26 : fq 71 = .int .i64 e1 := hG 26 71 rfl
      have q27 : fq 72 = .int .i64 e1 := hG 27 72 rfl
      have q28 : fq 73 = .bool true := hG 28 73 rfl
      have q29 : fq 74 = .bool true := hG 29 74 rfl
      have q30 : fq 75 = .bool true := hG 30 75 rfl
      have q31 : fq 76 = .int .u32 U := hG 31 76 rfl
      have q32 : fq 77 = .int .u32 U := hG 32 77 rfl
      have q33 : fq 78 = .bool true := hG 33 78 rfl
      have q34 : fq 79 = .bool true := hG 34 79 rfl
      have q35 : fq 80 = .bool true := hG 35 80 rfl
      have q36 : fq 81 = .int .i64 e2 := hG 36 81 rfl
      have q37 : fq 82 = .int .i64 e2 := hG 37 82 rfl
      have q38 : fq 83 = .bool true := hG 38 83 rfl
      have q39 : fq 84 = .bool true := hG 39 84 rfl
      have q40 : fq 85 = .bool true := hG 40 85 rfl
      have q41 : fq 86 = .pointer (some ⟨g, 2, none⟩) := hG 41 86 rfl
      have q42 : fq 87 = .slice (some ⟨g6, 0, none⟩) n (n + 16) := hG 42 87 rfl
      have q43 : fq 88 = .pointer (some ⟨w.heap.size + 1, 2, none⟩) := hG 43 88 rfl
      have q44 : fq 89 = .slice p n c := hG 44 89 rfl
      have q45 : fq 90 = .bool true := hG 45 90 rfl
      have q46 : fq 91 = .bool true := hG 46 91 rfl
      have q47 : fq 92 = .bool true := hG 47 92 rfl
      have q48 : fq 93 = .bool true := hG 48 93 rfl
      have q49 : fq 94 = .bool true := hG 49 94 rfl
      have q50 : fq 4 = .bool true := hG 50 4 rfl
      clear hG hall
      simp only [Vals.puts, Vals.pairs, List.filterMap_cons, List.filterMap_nil, id, List.map_cons, List.map_nil, List.foldl_cons, List.foldl_nil, q0, q1, q2, q3, q4, q5, q6, q7, q8, q9, q10, q11, q12, q13, q14, q15, q16, q17, q18, q19, q20, q21, q22, q23, q24, q25, q26, q27, q28, q29, q30, q31, q32, q33, q34, q35, q36, q37, q38, q39, q40, q41, q42, q43, q44, q45, q46, q47, q48, q49, q50]
      clear q0 q1 q2 q3 q4 q5 q6 q7 q8 q9 q10 q11 q12 q13 q14 q15 q16 q17 q18 q19 q20 q21 q22 q23 q24 q25 q26 q27 q28 q29 q30 q31 q32 q33 q34 q35 q36 q37 q38 q39 q40 q41 q42 q43 q44 q45 q46 q47 q48 q49 q50
      go_frame
      have HJ := Lib.hid (HB1.out.trans ((HB8.out.trans (hJ.mono HB8.out.size)).mono HB1.out.size))
      clear hJ HG8 HQ HC8 HX8 HB8
      go_wp2
      go_ret
      exact ⟨rfl, HJ.out⟩

end Go.Proofs.Ytlihcckgnnnekaa
