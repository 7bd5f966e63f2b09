/-
  The walk of ChunkWrites.
-/
import Derived.Test.YtoahkigmbmdniaaLChCom
namespace Go.Proofs.Ytoahkigmbmdniaa
open Go.RowKit
set_option linter.unusedVariables false

/-- What the operations of the drawn region leave behind. -/
def WG (w w1 : World) (p : Option Addr) (len cap : Nat) (k f : Int) (zs : List Int) (i : Nat) (v : Value) (W : World) : Prop := match i with | 0 => v = .pointer (some ⟨w.heap.size, 0, none⟩) | 1 => v = .int .u8 k | 2 => v = .pointer (some ⟨w.heap.size, 1, none⟩) | 3 => v = .int .u8 f | 4 => v = .pointer (some ⟨w.heap.size, 2, none⟩) | 5 => v = .slice p len cap | 6 => ∃ g, v = .slice (some ⟨g, 0, none⟩) len (len + 16) ∧ w1.heap.size ≤ g ∧ Blk W g (zs ++ List.replicate 16 90) | 7 => ∃ g, v = .agg #[.int .u8 k, .int .u8 f, .slice (some ⟨g, 0, none⟩) len (len + 16)] ∧ w1.heap.size ≤ g ∧ Blk W g (zs ++ List.replicate 16 90) | 8 => ∃ g, v = .pointer (some ⟨g, 0, none⟩) ∧ w1.heap.size ≤ g ∧ Arr W g 24 [.int .u8 0, .int .u8 0, .slice none 0 0]  | _ => True
theorem wgmono {w w1 W W' : World} {p : Option Addr} {len cap : Nat} {k f : Int} {zs : List Int} (hb : Below W.heap.size W W') (j : Nat) (x : Value) (h : WG w w1 p len cap k f zs j x W) : WG w w1 p len cap k f zs j x W' := by
  unfold WG at h ⊢
  split at h <;> try exact h
  · obtain ⟨g, h1, h2, h3⟩ := h
    exact ⟨g, h1, h2, h3.below hb⟩
  · obtain ⟨g, h1, h2, h3⟩ := h
    exact ⟨g, h1, h2, h3.below hb⟩
  · obtain ⟨g, h1, h2, h3⟩ := h
    exact ⟨g, h1, h2, h3.keep hb⟩
theorem Blk.ne_arr {w : World} {g' : Nat} {zs : List Int} (h : Blk w g' zs) {g : Nat} {cs : List Value} (hA : Arr w g 24 cs) : g' ≠ g := by
  intro e
  subst e
  unfold Blk at h
  unfold Arr at hA
  rw [hA] at h
  simp at h

theorem roomy_in {w : World} {g n : Nat} {zs : List Int} (h : Blk w g (zs ++ List.replicate 16 90)) (hl : zs.length = n) : Reads w (some ⟨g, 0, none⟩) n zs := by
  subst hl
  have := h.reads 0 zs.length (by simp)
  simpa using this

set_option maxRecDepth 100000 in
set_option maxHeartbeats 3200000 in
theorem chunkWrites_walk (k f : Int) (p : Option Addr) (len cap : Nat) (z : List Int) (w : World) (wk : (Lit.int .u8 k).wf = true) (wf : (Lit.int .u8 f).wf = true) (w0 : IsRow .u8 w p len cap z) :
    Calls Try.prog 3 #[.agg #[.int .u8 k, .int .u8 f, .slice p len cap]] w fun e w' => e = .returned (.bool true) ∧ Below w.heap.size w w' := by
  obtain ⟨hr, hbyt, hcap, hmax⟩ := w0.reads
  obtain ⟨k0, k1⟩ := wf_u8_in wk
  obtain ⟨f0, f1⟩ := wf_u8_in wf
  clear w0 wk wf
  generalize z.take len = zs at hr hbyt
  unfold maxLen at hmax
  obtain ⟨w0, hw0⟩ : ∃ w0, w.alloc (.cells #[.int .u8 k, .int .u8 f, .slice p len cap] 24) = w0 := ⟨_, rfl⟩
  have hb0 : Below w.heap.size w w0 := by rw [← hw0]; exact chunkBelow w k f _
  have ha0 : Arr w0 w.heap.size 24 [.int .u8 k, .int .u8 f, .slice p len cap] := by rw [← hw0]; exact chunkBox w k f _
  have c0 := ha0.cell (i := 0) rfl
  have c1 := ha0.cell (i := 1) rfl
  have c2 := ha0.cell (i := 2) rfl
  obtain ⟨lg, hlg⟩ : ∃ lg, lg = decide (131072 < len) := ⟨_, rfl⟩
  have hla := large_any k f p len cap w0 lg hlg
  have HR0 := Lib.hid (And.intro hr (And.intro hbyt hr.1))
  have H0 := Lib.hid (And.intro hb0 ha0)
  have HLA := Lib.hid hla
  have HK := Lib.hid (And.intro k0 (And.intro (show k < 256 by omega) (And.intro f0 (show f < 256 by omega))))
  clear hr hbyt hb0 ha0 hla k0 k1 f0 f1
  go_enter Try.func3, Try.ntmps3
  go_wp2_with fail
  refine HLA.out.mono ?_
  rintro e w1 ⟨rfl, hb1⟩
  have hb1w := H0.out.1.trans (hb1.mono H0.out.1.size)
  have ha1 := H0.out.2.keep hb1
  have HB1 := Lib.hid hb1w
  have HA := Lib.hid ha1
  clear HLA hb1 hb1w ha1 c0 c1 c2 hw0 H0
  cases lg with
  | true =>
    clear hlg
    go_wp2_with (go_at_call 11; refine (works_any _).mono ?_; rintro e w' ⟨rfl, hb⟩)
    go_ret
    exact ⟨rfl, HB1.out.trans (hb.mono HB1.out.size)⟩
  | false =>
  have hlen : len ≤ 131072 := by simpa using hlg.symm
  clear hlg
  have HR := Lib.hid (And.intro (HR0.out.1.below HB1.out) HR0.out.2)
  clear HR0
  go_wp2_with fail
  refine wp_region_any (by kernel_rfl) ?_
  refine Vals.wpAny_goodLast (WG w w1 p len cap k f zs) (fun W => Below w1.heap.size w1 W) [some 9, some 10, some 11, some 12, some 13, some 14, some 15, some 16, some 3, none] 9 43 _ _ rfl (by kernel_rfl) (by kernel_rfl) (by kernel_rfl) (by decide) rfl ?step ?fin (Below.refl _ _).drew
  case step =>
    intro i o d ho hd hiN a W hJ hdf hdep hfr K hK
    match i, ho, hd with
      | 0, ho, hd =>
        have ho' := ho
        simp only [List.getElem?_toArray, List.getElem?_cons_zero, Option.some.injEq] at ho hd
        subst ho hd
        have r1 : a.eval (.tmp 1) = .pointer (some ⟨w.heap.size, 0, none⟩) := hfr 1 (by decide)
        rw [Vals.eval_tmp] at r1
        refine Vals.wpOp_run ho' rfl ?_
        clear hdep hfr ho' hdf
        go_simp
        exact hK _ _ (fun _ _ h => h) hJ (fun _ => rfl)
      | 1, ho, hd =>
        have ho' := ho
        simp only [List.getElem?_toArray, List.getElem?_cons_zero, List.getElem?_cons_succ, Option.some.injEq] at ho hd
        subst ho hd
        have r9 : a.eval (.tmp 9) = .pointer (some ⟨w.heap.size, 0, none⟩) := hdep ⟨0, .data⟩ (by simp) rfl 9 rfl
        rw [Vals.eval_tmp] at r9
        have c0 := HA.out.cell (i := 0) rfl
        have hc0 : W.cell? ⟨w.heap.size, 0, none⟩ = some (.int .u8 k) := (hJ.cell (p := ⟨w.heap.size, 0, none⟩) HA.out.lt).trans c0
        refine Vals.wpOp_run ho' rfl ?_
        clear hdep hfr ho' hdf
        go_simp
        exact hK _ _ (fun _ _ h => h) hJ (fun _ => rfl)
      | 2, ho, hd =>
        have ho' := ho
        simp only [List.getElem?_toArray, List.getElem?_cons_zero, List.getElem?_cons_succ, Option.some.injEq] at ho hd
        subst ho hd
        have r1 : a.eval (.tmp 1) = .pointer (some ⟨w.heap.size, 0, none⟩) := hfr 1 (by decide)
        rw [Vals.eval_tmp] at r1
        refine Vals.wpOp_run ho' rfl ?_
        clear hdep hfr ho' hdf
        go_simp
        exact hK _ _ (fun _ _ h => h) hJ (fun _ => rfl)
      | 3, ho, hd =>
        have ho' := ho
        simp only [List.getElem?_toArray, List.getElem?_cons_zero, List.getElem?_cons_succ, Option.some.injEq] at ho hd
        subst ho hd
        have r11 : a.eval (.tmp 11) = .pointer (some ⟨w.heap.size, 1, none⟩) := hdep ⟨2, .data⟩ (by simp) rfl 11 rfl
        rw [Vals.eval_tmp] at r11
        have c1 := HA.out.cell (i := 1) rfl
        have hc1 : W.cell? ⟨w.heap.size, 1, none⟩ = some (.int .u8 f) := (hJ.cell (p := ⟨w.heap.size, 1, none⟩) HA.out.lt).trans c1
        refine Vals.wpOp_run ho' rfl ?_
        clear hdep hfr ho' hdf
        go_simp
        exact hK _ _ (fun _ _ h => h) hJ (fun _ => rfl)
      | 4, ho, hd =>
        have ho' := ho
        simp only [List.getElem?_toArray, List.getElem?_cons_zero, List.getElem?_cons_succ, Option.some.injEq] at ho hd
        subst ho hd
        have r1 : a.eval (.tmp 1) = .pointer (some ⟨w.heap.size, 0, none⟩) := hfr 1 (by decide)
        rw [Vals.eval_tmp] at r1
        refine Vals.wpOp_run ho' rfl ?_
        clear hdep hfr ho' hdf
        go_simp
        exact hK _ _ (fun _ _ h => h) hJ (fun _ => rfl)
      | 5, ho, hd =>
        have ho' := ho
        simp only [List.getElem?_toArray, List.getElem?_cons_zero, List.getElem?_cons_succ, Option.some.injEq] at ho hd
        subst ho hd
        have r13 : a.eval (.tmp 13) = .pointer (some ⟨w.heap.size, 2, none⟩) := hdep ⟨4, .data⟩ (by simp) rfl 13 rfl
        rw [Vals.eval_tmp] at r13
        have c2 := HA.out.cell (i := 2) rfl
        have hc2 : W.cell? ⟨w.heap.size, 2, none⟩ = some (.slice p len cap) := (hJ.cell (p := ⟨w.heap.size, 2, none⟩) HA.out.lt).trans c2
        refine Vals.wpOp_run ho' rfl ?_
        clear hdep hfr ho' hdf
        go_simp
        exact hK _ _ (fun _ _ h => h) hJ (fun _ => rfl)
      | 6, ho, hd =>
        have ho' := ho
        simp only [List.getElem?_toArray, List.getElem?_cons_zero, List.getElem?_cons_succ, Option.some.injEq] at ho hd
        subst ho hd
        have r14 : a.eval (.tmp 14) = .slice p len cap := hdep ⟨5, .data⟩ (by simp) rfl 14 rfl
        rw [Vals.eval_tmp] at r14
        refine Vals.wpOp_run ho' rfl ?_
        clear hdep hfr ho' hdf
        go_simp
        refine (roomy_any p len cap zs W (HR.out.1.below hJ) (by omega)).mono ?_
        rintro e w' ⟨rfl, hb3, hk3⟩
        exact hK _ _ (wgmono hb3) (hJ.trans (hb3.mono hJ.size)) (fun _ => ⟨_, rfl, hJ.size, hk3⟩)
      | 7, ho, hd =>
        have ho' := ho
        simp only [List.getElem?_toArray, List.getElem?_cons_zero, List.getElem?_cons_succ, Option.some.injEq] at ho hd
        subst ho hd
        have r10 : a.eval (.tmp 10) = .int .u8 k := hdep ⟨1, .data⟩ (by simp) rfl 10 rfl
        rw [Vals.eval_tmp] at r10
        have r12 : a.eval (.tmp 12) = .int .u8 f := hdep ⟨3, .data⟩ (by simp) rfl 12 rfl
        rw [Vals.eval_tmp] at r12
        have g15 : ∃ g, (a.eval (.tmp 15)) = .slice (some ⟨g, 0, none⟩) len (len + 16) ∧ w1.heap.size ≤ g ∧ Blk W g (zs ++ List.replicate 16 90) := hdep ⟨6, .data⟩ (by simp) rfl 15 rfl
        rw [Vals.eval_tmp] at g15
        obtain ⟨g, r15, hg6⟩ := g15
        refine Vals.wpOp_run ho' rfl ?_
        clear hdep hfr ho' hdf
        go_simp
        exact hK _ _ (fun _ _ h => h) hJ (fun _ => ⟨_, rfl, hg6⟩)
      | 8, ho, hd =>
        have ho' := ho
        simp only [List.getElem?_toArray, List.getElem?_cons_zero, List.getElem?_cons_succ, Option.some.injEq] at ho hd
        subst ho hd
        refine Vals.wpOp_run ho' rfl ?_
        clear hdep hfr ho' hdf
        go_simp
        exact hK _ _ (wgmono (chunkBelow W 0 0 (.slice none 0 0))) (hJ.trans ((chunkBelow W 0 0 (.slice none 0 0)).mono hJ.size)) (fun _ => ⟨_, rfl, hJ.size, chunkBox W 0 0 (.slice none 0 0)⟩)
      | i + 9, ho, hd => omega
  case fin =>
    intro W f' hJ hG
    have q0 : f' 9 = .pointer (some ⟨w.heap.size, 0, none⟩) := hG 0 9 rfl
    have q1 : f' 10 = .int .u8 k := hG 1 10 rfl
    have q2 : f' 11 = .pointer (some ⟨w.heap.size, 1, none⟩) := hG 2 11 rfl
    have q3 : f' 12 = .int .u8 f := hG 3 12 rfl
    have q4 : f' 13 = .pointer (some ⟨w.heap.size, 2, none⟩) := hG 4 13 rfl
    have q5 : f' 14 = .slice p len cap := hG 5 14 rfl
    obtain ⟨g6, q6, r6⟩ : ∃ g, f' 15 = .slice (some ⟨g, 0, none⟩) len (len + 16) ∧ w1.heap.size ≤ g ∧ Blk W g (zs ++ List.replicate 16 90) := hG 6 15 rfl
    obtain ⟨g7, q7, hg7, hk7⟩ : ∃ g, f' 16 = .agg #[.int .u8 k, .int .u8 f, .slice (some ⟨g, 0, none⟩) len (len + 16)] ∧ w1.heap.size ≤ g ∧ Blk W g (zs ++ List.replicate 16 90) := hG 7 16 rfl
    obtain ⟨g, q8, hg, ha⟩ : ∃ g, f' 3 = .pointer (some ⟨g, 0, none⟩) ∧ w1.heap.size ≤ g ∧ Arr W g 24 [.int .u8 0, .int .u8 0, .slice none 0 0] := hG 8 3 rfl
    clear hG
    refine Vals.wpOp_run rfl rfl ?_
    simp only [Vals.puts, Vals.pairs, List.filterMap_cons, List.filterMap_nil, id, List.map_cons, List.map_nil, List.foldl_cons, List.foldl_nil, q0, q1, q2, q3, q4, q5, q6, q7, q8]
    clear q0 q1 q2 q3 q4 q5 q6 q7 q8 r6
    go_frame
    have x0 := ha.free 0
    have x1 := ha.free 1
    have x2 := ha.free 2
    have c0 := ha.cell (i := 0) rfl
    have c1 := ha.cell (i := 1) rfl
    have c2 := ha.cell (i := 2) rfl
    obtain ⟨W4, hW4⟩ : ∃ W4, ((W.setCell ⟨g, 0, none⟩ (.int .u8 k)).setCell ⟨g, 1, none⟩ (.int .u8 f)).setCell ⟨g, 2, none⟩ (.slice (some ⟨g7, 0, none⟩) len (len + 16)) = W4 := ⟨_, rfl⟩
    have h4 := box3 ha (.int .u8 k) (.int .u8 f) (.slice (some ⟨g7, 0, none⟩) len (len + 16))
    have hb4 := below3 (hJ : Below w1.heap.size w1 W) hg (.int .u8 k) (.int .u8 f) (.slice (some ⟨g7, 0, none⟩) len (len + 16))
    have hne := hk7.ne_arr ha
    have hk4 : Blk (((W.setCell ⟨g, 0, none⟩ (.int .u8 k)).setCell ⟨g, 1, none⟩ (.int .u8 f)).setCell ⟨g, 2, none⟩ (.slice (some ⟨g7, 0, none⟩) len (len + 16))) g7 (zs ++ List.replicate 16 90) :=
      (Below.heap_setCell _ _ _ _ (by simpa using hne)).trans ((Below.heap_setCell _ _ _ _ (by simpa using hne)).trans ((Below.heap_setCell _ _ _ _ (by simpa using hne)).trans hk7))
    rw [hW4] at h4 hb4 hk4
    have hin4 : Reads W4 (some ⟨g7, 0, none⟩) len zs := roomy_in hk4 HR.out.2.2
    have hwr := write_any k f (some ⟨g7, 0, none⟩) len (len + 16) zs W4 hin4 HR.out.2.1 HK.out.1 HK.out.2.1 HK.out.2.2.1 HK.out.2.2.2
    have H4 := Lib.hid (And.intro h4 (And.intro hb4 hk4))
    have HW := Lib.hid hwr
    clear h4 hb4 hk4 hne ha hg hJ hk7 hg7 hin4 hwr
    go_simp
    have d0 := H4.out.1.cell (i := 0) rfl
    have d1 := H4.out.1.cell (i := 1) rfl
    have d2 := H4.out.1.cell (i := 2) rfl
    clear hW4 x0 x1 x2 c0 c1 c2
    go_wp2_with fail
    refine HW.out.mono ?_
    rintro e W5 ⟨r5, rfl, hm5, hb5⟩
    have HFAR := Lib.hid (And.intro hm5.far H4.out.2.2.lt)
    have ha5 := H4.out.1.keep hb5
    have hb51 := H4.out.2.1.trans (hb5.mono H4.out.2.1.size)
    have hk5 := H4.out.2.2.below hb5
    have hp5 := HA.out.keep hb51
    have hrw := rwrite_any k f p len cap zs W5 (HR.out.1.below hb51)
    have c0 := hp5.cell (i := 0) rfl
    have c1 := hp5.cell (i := 1) rfl
    have c2 := hp5.cell (i := 2) rfl
    have hE := encOf_len k f zs
    have H5 := Lib.hid (And.intro ha5 (And.intro hb51 (And.intro hk5 (And.intro hm5 (And.intro hp5 H4.out.2.1.size)))))
    have HRW := Lib.hid hrw
    clear hb5 ha5 hb51 hk5 hp5 hm5 hrw HW H4 d0 d1 d2
    go_wp2_with fail
    refine HRW.out.mono ?_
    rintro e W6 ⟨a6, c6, rfl, hr6, hb6⟩
    have heq := eqBytes_yes r5.addr a6 _ (encOf k f zs).length c6 (encOf k f zs).length _ _ W6 (H5.out.2.2.2.1.keep hb6).reads hr6 (encOf_byt HK.out.1 HK.out.2.1 HK.out.2.2.1 HK.out.2.2.2 HR.out.2.1) (by omega) rfl
    have H6 := Lib.hid (And.intro (H5.out.1.keep hb6) (And.intro (H5.out.2.1.trans (hb6.mono H5.out.2.1.size)) (And.intro (H5.out.2.2.1.below hb6) (And.intro (H5.out.2.2.2.1.keep hb6) (And.intro (H5.out.2.2.2.2.1.keep hb6) H5.out.2.2.2.2.2)))))
    have HEQ := Lib.hid heq
    clear hr6 hb6 heq HRW H5 c0 c1 c2
    go_wp2_with fail
    refine HEQ.out.mono ?_
    rintro e W7 ⟨rfl, hb7, _⟩
    have ha7 := H6.out.1.keep hb7
    have hp7 := H6.out.2.2.2.2.1.keep hb7
    have hb71 := H6.out.2.1.trans (hb7.mono H6.out.2.1.size)
    have hkp := kept_yes p g7 len cap zs W7 (H6.out.2.2.1.below hb7) (HR.out.1.below hb71) HR.out.2.1 (by omega)
    have d2 := ha7.cell (i := 2) rfl
    have c2 := hp7.cell (i := 2) rfl
    have H7 := Lib.hid (And.intro ha7 (And.intro hb71 (And.intro (H6.out.2.2.1.below hb7) (And.intro (H6.out.2.2.2.1.keep hb7) H6.out.2.2.2.2.2))))
    have HKP := Lib.hid hkp
    clear hb7 ha7 hp7 hb71 hkp HEQ H6
    go_wp2_with fail
    refine HKP.out.mono ?_
    rintro e W8 ⟨rfl, hb8⟩
    have ha8 := H7.out.1.keep hb8
    have hb81 := H7.out.2.1.trans (hb8.mono H7.out.2.1.size)
    have hk8 := H7.out.2.2.1.below hb8
    have hin8 : Reads W8 (some ⟨g7, 0, none⟩) len zs := roomy_in hk8 HR.out.2.2
    have hwr := write_any k f (some ⟨g7, 0, none⟩) len (len + 16) zs W8 hin8 HR.out.2.1 HK.out.1 HK.out.2.1 HK.out.2.2.1 HK.out.2.2.2
    have e0 := ha8.cell (i := 0) rfl
    have e1 := ha8.cell (i := 1) rfl
    have e2 := ha8.cell (i := 2) rfl
    have H8 := Lib.hid (And.intro ha8 (And.intro hb81 (And.intro hk8 (H7.out.2.2.2.1.keep hb8))))
    have HW := Lib.hid hwr
    clear hb8 ha8 hb81 hk8 hin8 hwr HKP H7 d2 c2
    go_wp2_with fail
    refine HW.out.mono ?_
    rintro e W9 ⟨r9, rfl, hm9, hb9⟩
    have ha9 := H8.out.1.keep hb9
    have hb91 := H8.out.2.1.trans (hb9.mono H8.out.2.1.size)
    have hk9 := H8.out.2.2.1.below hb9
    have hm5 := H8.out.2.2.2.keep hb9
    have d2 := ha9.cell (i := 2) rfl
    have hlz := HR.out.2.2
    have hap := apart_3 r5 r9 (some (g7, len, zs ++ List.replicate 16 90)) 22 W9 hm5.ok hm9.ok ⟨hk9, HR.out.2.1.append (Byt.rep (by omega) (by omega) _), by simp; omega, by simp; omega⟩
      (by
        by_cases hn : r5.blk = none
        · exact .inl hn
        · refine .inr (fun e => ?_)
          obtain ⟨b, hb⟩ := Option.ne_none_iff_exists'.1 hn
          have h1 := H8.out.2.2.2.lt b hb
          have h2 := hm9.far b (e ▸ hb)
          omega)
      (by
        by_cases hn : r5.blk = none
        · exact .inl hn
        · refine .inr (fun e => ?_)
          have h1 := HFAR.out.1 g7 (e.trans rfl)
          have h2 := HFAR.out.2
          omega)
      (by
        by_cases hn : r9.blk = none
        · exact .inl hn
        · refine .inr (fun e => ?_)
          have h1 := hm9.far g7 (e.trans rfl)
          have h2 := H8.out.2.2.1.lt
          omega)
    rw [hm5.val, hm9.val] at hap
    simp only [ARow.val, List.length_append, List.length_replicate, hlz] at hap
    have HB9 := Lib.hid hb91
    have HAP := Lib.hid hap
    clear hb9 ha9 hb91 hk9 hm5 hm9 hap hlz HW H8 e0 e1 e2
    go_wp2_with fail
    refine HAP.out.mono ?_
    rintro e W10 ⟨rfl, hb10⟩
    have HB10 := Lib.hid (HB9.out.trans (hb10.mono HB9.out.size))
    clear hb10 HAP HB9 d2
    go_wp2_with fail
    refine (works_any W10).mono ?_
    rintro e W11 ⟨rfl, hb11⟩
    have HB11 := Lib.hid (HB1.out.trans ((HB10.out.trans (hb11.mono HB10.out.size)).mono HB1.out.size))
    clear hb11 HB10
    go_wp2
    go_ret
    exact ⟨rfl, HB11.out⟩
end Go.Proofs.Ytoahkigmbmdniaa
