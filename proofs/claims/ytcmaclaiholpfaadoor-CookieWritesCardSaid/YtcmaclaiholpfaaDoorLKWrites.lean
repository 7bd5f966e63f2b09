/-
  The walk of CookieWrites. Written by genkwrites.py.
-/
import Derived.Test.YtcmaclaiholpfaaDoorKApi
import Derived.Test.YtcmaclaiholpfaaDoorMgA
namespace Go.Proofs.YtcmaclaiholpfaaDoor
open Go.RowKit
set_option linter.unusedVariables false
set_option linter.unusedSimpArgs false

/-- What the operations of the drawn region leave behind. -/
def KWrq (w wE : World) (p : Option Addr) (len cap : Nat) (zs : List Int) (k : KV) (a1 : Option Addr) (c1 : Nat) (i : Nat) (v : Value) (W : World) : Prop := match i with | 0 => v = .slice a1 len c1 | 1 => v = .agg #[.int .i64 k.born, .int .u32 k.own, .int .u32 k.peer, .int .u32 k.otsn, .int .u32 k.ptsn, .int .u32 k.rwnd, .int .u16 k.out, .int .u16 k.inn] | 2 => ∃ aw cw, v = .slice aw 64 cw ∧ Reads W aw 64 (writeK zs k) | 3 => v = .slice p len cap | 4 => v = .agg #[.int .i64 k.born, .int .u32 k.own, .int .u32 k.peer, .int .u32 k.otsn, .int .u32 k.ptsn, .int .u32 k.rwnd, .int .u16 k.out, .int .u16 k.inn] | 5 => ∃ ar cr, v = .slice ar 64 cr ∧ Reads W ar 64 (writeK zs k) | 6 => v = .bool true | 7 => v = .bool true | 8 => v = .slice a1 len c1 | 9 => v = .slice p len cap | 10 => v = .bool true | 11 => v = .bool true | 12 => v = .bool true | 13 => v = .bool true | 14 => v = .bool true | 15 => v = .bool true | _ => True
theorem KWrq_mono {w wE : World} {p : Option Addr} {len cap : Nat} {zs : List Int} {k : KV} {a1 : Option Addr} {c1 : Nat} {W W' : World} (hb : Below W.heap.size W W') (jo : Nat) (xo : Value) (h : KWrq w wE p len cap zs k a1 c1 jo xo W) : KWrq w wE p len cap zs k a1 c1 jo xo W' := by
  unfold KWrq at h ⊢
  split at h <;> try exact h
  · obtain ⟨aw, cw, e0, h0_0⟩ := h
    exact ⟨aw, cw, e0, h0_0.below hb⟩
  · obtain ⟨ar, cr, e0, h0_0⟩ := h
    exact ⟨ar, cr, e0, h0_0.below hb⟩

set_option maxRecDepth 10000 in
set_option maxHeartbeats 3200000 in
theorem cookieWrites_of (KW : KWriteOk) (WK : KWorks) (p : Option Addr) (len cap : Nat) (z : List Int) (k : KV) (w : World) (v0 : IsRow .u8 w p len cap z) (hok : k.ok) (ht : Tab w) :
    Calls Tryd.prog 3 #[.slice p len cap, (.agg #[.int .i64 k.born, .int .u32 k.own, .int .u32 k.peer, .int .u32 k.otsn, .int .u32 k.ptsn, .int .u32 k.rwnd, .int .u16 k.out, .int .u16 k.inn])] w fun e w' => e = .returned (.bool true) ∧ Below w.heap.size w w' := by
  obtain ⟨hr, hbyt, hcap, hmax⟩ := v0.reads
  clear v0
  generalize z.take len = zs at hr hbyt
  obtain ⟨w0, hw0⟩ : ∃ w0, w0 = w.alloc (.cells #[.int .i64 k.born, .int .u32 k.own, .int .u32 k.peer, .int .u32 k.otsn, .int .u32 k.ptsn, .int .u32 k.rwnd, .int .u16 k.out, .int .u16 k.inn] 26) := ⟨_, rfl⟩
  have hb0 : Below w.heap.size w w0 := by rw [hw0]; exact (Below.refl _ _).alloc (Nat.le_refl _) _
  have hA0 : Arr w0 w.heap.size 26 [.int .i64 k.born, .int .u32 k.own, .int .u32 k.peer, .int .u32 k.otsn, .int .u32 k.ptsn, .int .u32 k.rwnd, .int .u16 k.out, .int .u16 k.inn] := by rw [hw0]; exact arr_new _ _ _
  have HR := Lib.hid (And.intro (hr.below hb0) (And.intro hbyt (And.intro hcap hok)))
  have HT0 := Lib.hid (ht.below hb0 ht.lt)
  have HB0 := Lib.hid hb0
  have HX0 := Lib.hid hA0
  clear hr hbyt hcap hok ht hb0 hA0
  unfold maxLen at hmax
  by_cases hlong : 4096 < len
  · have hg : (4096 : Int) < len := by omega
    go_enter Tryd.func3, Tryd.ntmps3
    go_wp2_with fail
    rw [← hw0]
    refine (WK w0 HT0.out).mono ?_
    rintro e w' ⟨rfl, hb⟩
    have HW := Lib.hid (HB0.out.trans (hb.mono HB0.out.size))
    clear hb
    go_wp2
    go_ret
    exact ⟨rfl, HW.out⟩
  have hg : ¬ (4096 : Int) < len := by omega
  have ht1 := twinK_any p len cap zs w0 HR.out.1 (by omega)
  have HT1 := Lib.hid ht1
  clear ht1
  go_enter Tryd.func3, Tryd.ntmps3
  go_wp2_with fail
  rw [← hw0]
  clear hw0
  refine HT1.out.mono ?_
  rintro e wE ⟨a1, c1, rfl, hr1, hb1⟩
  have HB1 := Lib.hid (HB0.out.trans (hb1.mono HB0.out.size))
  have HX := Lib.hid (HX0.out.keep hb1)
  have HT := Lib.hid (HT0.out.below hb1 HT0.out.lt)
  have HRE := Lib.hid (And.intro (HR.out.1.below hb1) HR.out.2.1)
  have HRK := Lib.hid hr1.reads
  have hkw := fun W (hJ : Below wE.heap.size wE W) => KW a1 len c1 zs k W (HRK.out.below hJ) HRE.out.2 (by omega) hr1.le HR.out.2.2.2 (HT.out.below hJ HT.out.lt)
  have hrw := fun W (hJ : Below wE.heap.size wE W) => rwriteK_any p len cap zs k W (HRE.out.1.below hJ) HRE.out.2 (by omega) HR.out.2.2.2
  unfold KV.val at hkw hrw
  have HKW := Lib.hid hkw
  have HRW := Lib.hid hrw
  clear hkw hrw hr1 hb1 HT1 HX0 HT0 HB0 HR
  go_upto_region 4 with fail
  refine wp_region_any (by kernel_rfl) ?_
  refine Vals.wpAny_goodW (KWrq w wE p len cap zs k a1 c1) (fun _ => (fun W => Below wE.heap.size wE W)) [some 12, some 13, some 14, some 15, some 16, some 17, some 18, some 19, some 20, some 21, some 22, some 23, some 24, some 25, some 26, some 4] 27 _ _ rfl (by kernel_rfl) (by kernel_rfl) (by decide) ?step ?fin (Below.refl _ _).drew
  case step =>
    intro i o d ho hd listed a W hls hun hcl hJ hdf hdep hfr K hK
    match i, ho, hd with
    | 0, ho, hd =>
      have ho' := ho
      simp only [List.getElem?_toArray, List.getElem?_cons_zero, Option.some.injEq] at ho hd
      subst ho hd
      have r5 : a.eval (.tmp 5) = .slice a1 len c1 := hfr 5 (by decide)
      rw [Vals.eval_tmp] at r5
      refine Vals.wpOp_run ho' rfl ?_
      clear hdep hfr ho' hdf hcl
      go_simp
      exact hK _ _ (fun _ _ h => h) hJ (fun _ => rfl)
    | 1, ho, hd =>
      have ho' := ho
      simp only [List.getElem?_toArray, List.getElem?_cons_zero, List.getElem?_cons_succ, Option.some.injEq] at ho hd
      subst ho hd
      have r3 : a.eval (.tmp 3) = .pointer (some ⟨w.heap.size, 0, none⟩) := hfr 3 (by decide)
      rw [Vals.eval_tmp] at r3
      have c0 := (HX.out.keep hJ).cell (i := 0) rfl
      have c1 := (HX.out.keep hJ).cell (i := 1) rfl
      have c2 := (HX.out.keep hJ).cell (i := 2) rfl
      have c3 := (HX.out.keep hJ).cell (i := 3) rfl
      have c4 := (HX.out.keep hJ).cell (i := 4) rfl
      have c5 := (HX.out.keep hJ).cell (i := 5) rfl
      have c6 := (HX.out.keep hJ).cell (i := 6) rfl
      have c7 := (HX.out.keep hJ).cell (i := 7) rfl
      refine Vals.wpOp_run ho' rfl ?_
      clear hdep hfr ho' hdf hcl
      go_simp
      exact hK _ _ (fun _ _ h => h) hJ (fun _ => rfl)
    | 2, ho, hd =>
      have ho' := ho
      simp only [List.getElem?_toArray, List.getElem?_cons_zero, List.getElem?_cons_succ, Option.some.injEq] at ho hd
      subst ho hd
      have r12 : a.eval (.tmp 12) = .slice a1 len c1 := (hdep ⟨0, .data⟩ (by simp) rfl).2 12 rfl
      rw [Vals.eval_tmp] at r12
      have r13 : a.eval (.tmp 13) = .agg #[.int .i64 k.born, .int .u32 k.own, .int .u32 k.peer, .int .u32 k.otsn, .int .u32 k.ptsn, .int .u32 k.rwnd, .int .u16 k.out, .int .u16 k.inn] := (hdep ⟨1, .data⟩ (by simp) rfl).2 13 rfl
      rw [Vals.eval_tmp] at r13
      refine Vals.wpOp_run ho' rfl ?_
      clear hdep hfr ho' hdf hcl
      go_simp
      refine (HKW.out W hJ).mono ?_
      rintro e w' ⟨aw, cw, rfl, hr3, _, _, hb3⟩
      exact hK _ _ (KWrq_mono hb3) (hJ.trans (hb3.mono hJ.size)) (fun _ => ⟨_, _, rfl, hr3⟩)
    | 3, ho, hd =>
      have ho' := ho
      simp only [List.getElem?_toArray, List.getElem?_cons_zero, List.getElem?_cons_succ, Option.some.injEq] at ho hd
      subst ho hd
      have r0 : a.eval (.tmp 0) = .slice p len cap := hfr 0 (by decide)
      rw [Vals.eval_tmp] at r0
      refine Vals.wpOp_run ho' rfl ?_
      clear hdep hfr ho' hdf hcl
      go_simp
      exact hK _ _ (fun _ _ h => h) hJ (fun _ => rfl)
    | 4, ho, hd =>
      have ho' := ho
      simp only [List.getElem?_toArray, List.getElem?_cons_zero, List.getElem?_cons_succ, Option.some.injEq] at ho hd
      subst ho hd
      have r3 : a.eval (.tmp 3) = .pointer (some ⟨w.heap.size, 0, none⟩) := hfr 3 (by decide)
      rw [Vals.eval_tmp] at r3
      have c0 := (HX.out.keep hJ).cell (i := 0) rfl
      have c1 := (HX.out.keep hJ).cell (i := 1) rfl
      have c2 := (HX.out.keep hJ).cell (i := 2) rfl
      have c3 := (HX.out.keep hJ).cell (i := 3) rfl
      have c4 := (HX.out.keep hJ).cell (i := 4) rfl
      have c5 := (HX.out.keep hJ).cell (i := 5) rfl
      have c6 := (HX.out.keep hJ).cell (i := 6) rfl
      have c7 := (HX.out.keep hJ).cell (i := 7) rfl
      refine Vals.wpOp_run ho' rfl ?_
      clear hdep hfr ho' hdf hcl
      go_simp
      exact hK _ _ (fun _ _ h => h) hJ (fun _ => rfl)
    | 5, ho, hd =>
      have ho' := ho
      simp only [List.getElem?_toArray, List.getElem?_cons_zero, List.getElem?_cons_succ, Option.some.injEq] at ho hd
      subst ho hd
      have r15 : a.eval (.tmp 15) = .slice p len cap := (hdep ⟨3, .data⟩ (by simp) rfl).2 15 rfl
      rw [Vals.eval_tmp] at r15
      have r16 : a.eval (.tmp 16) = .agg #[.int .i64 k.born, .int .u32 k.own, .int .u32 k.peer, .int .u32 k.otsn, .int .u32 k.ptsn, .int .u32 k.rwnd, .int .u16 k.out, .int .u16 k.inn] := (hdep ⟨4, .data⟩ (by simp) rfl).2 16 rfl
      rw [Vals.eval_tmp] at r16
      refine Vals.wpOp_run ho' rfl ?_
      clear hdep hfr ho' hdf hcl
      go_simp
      refine (HRW.out W hJ).mono ?_
      rintro e w' ⟨ar, cr, rfl, hr3, hb3⟩
      exact hK _ _ (KWrq_mono hb3) (hJ.trans (hb3.mono hJ.size)) (fun _ => ⟨_, _, rfl, hr3.reads⟩)
    | 6, ho, hd =>
      have ho' := ho
      simp only [List.getElem?_toArray, List.getElem?_cons_zero, List.getElem?_cons_succ, Option.some.injEq] at ho hd
      subst ho hd
      have g14 : ∃ aw_14 cw_14, a.eval (.tmp 14) = .slice aw_14 64 cw_14 ∧ Reads W aw_14 64 (writeK zs k) := (hdep ⟨2, .data⟩ (by simp) rfl).2 14 rfl
      rw [Vals.eval_tmp] at g14
      obtain ⟨aw_14, cw_14, r14, h14_0⟩ := g14
      have g17 : ∃ ar_17 cr_17, a.eval (.tmp 17) = .slice ar_17 64 cr_17 ∧ Reads W ar_17 64 (writeK zs k) := (hdep ⟨5, .data⟩ (by simp) rfl).2 17 rfl
      rw [Vals.eval_tmp] at g17
      obtain ⟨ar_17, cr_17, r17, h17_0⟩ := g17
      have hs := sameK_any aw_14 ar_17 64 cw_14 cr_17 64 (writeK zs k) (writeK zs k) W h14_0 h17_0 (writeK_byt _ _) (writeK_byt _ _)
      rw [decide_eq_true rfl] at hs
      have HS := Lib.hid hs
      clear hs
      refine Vals.wpOp_run ho' rfl ?_
      clear hdep hfr ho' hdf hcl
      go_simp
      refine HS.out.mono ?_
      rintro e w' ⟨rfl, rfl⟩
      exact hK _ _ (fun _ _ h => h) hJ (fun _ => rfl)
    | 7, ho, hd =>
      have ho' := ho
      simp only [List.getElem?_toArray, List.getElem?_cons_zero, List.getElem?_cons_succ, Option.some.injEq] at ho hd
      subst ho hd
      have r18 : a.eval (.tmp 18) = .bool true := (hdep ⟨6, .data⟩ (by simp) rfl).2 18 rfl
      rw [Vals.eval_tmp] at r18
      refine Vals.wpOp_run ho' rfl ?_
      clear hdep hfr ho' hdf hcl
      go_simp
      exact hK _ _ (fun _ _ h => h) hJ (fun _ => rfl)
    | 8, ho, hd =>
      have ho' := ho
      simp only [List.getElem?_toArray, List.getElem?_cons_zero, List.getElem?_cons_succ, Option.some.injEq] at ho hd
      subst ho hd
      have hgd : a.eval (.tmp 19) = .bool true := (hdep ⟨7, .guard⟩ (by simp) rfl).2 19 rfl
      have r5 : a.eval (.tmp 5) = .slice a1 len c1 := hfr 5 (by decide)
      rw [Vals.eval_tmp] at r5
      refine Vals.wpOp_run ho' (by unfold Region.wanted; simp only []; rw [Vals.yielded_of (d := 19) rfl hgd]; rfl) ?_
      clear hdep hfr ho' hdf hgd hcl
      go_simp
      exact hK _ _ (fun _ _ h => h) hJ (fun _ => rfl)
    | 9, ho, hd =>
      have ho' := ho
      simp only [List.getElem?_toArray, List.getElem?_cons_zero, List.getElem?_cons_succ, Option.some.injEq] at ho hd
      subst ho hd
      have hgd : a.eval (.tmp 19) = .bool true := (hdep ⟨7, .guard⟩ (by simp) rfl).2 19 rfl
      have r0 : a.eval (.tmp 0) = .slice p len cap := hfr 0 (by decide)
      rw [Vals.eval_tmp] at r0
      refine Vals.wpOp_run ho' (by unfold Region.wanted; simp only []; rw [Vals.yielded_of (d := 19) rfl hgd]; rfl) ?_
      clear hdep hfr ho' hdf hgd hcl
      go_simp
      exact hK _ _ (fun _ _ h => h) hJ (fun _ => rfl)
    | 10, ho, hd =>
      have ho' := ho
      simp only [List.getElem?_toArray, List.getElem?_cons_zero, List.getElem?_cons_succ, Option.some.injEq] at ho hd
      subst ho hd
      have hgd : a.eval (.tmp 19) = .bool true := (hdep ⟨7, .guard⟩ (by simp) rfl).2 19 rfl
      have r20 : a.eval (.tmp 20) = .slice a1 len c1 := (hdep ⟨8, .data⟩ (by simp) rfl).2 20 rfl
      rw [Vals.eval_tmp] at r20
      have r21 : a.eval (.tmp 21) = .slice p len cap := (hdep ⟨9, .data⟩ (by simp) rfl).2 21 rfl
      rw [Vals.eval_tmp] at r21
      have hs := sameK_any a1 p len c1 cap len zs zs W (HRK.out.below hJ) (HRE.out.1.below hJ) HRE.out.2 HRE.out.2
      rw [decide_eq_true rfl] at hs
      have HS := Lib.hid hs
      clear hs
      refine Vals.wpOp_run ho' (by unfold Region.wanted; simp only []; rw [Vals.yielded_of (d := 19) rfl hgd]; rfl) ?_
      clear hdep hfr ho' hdf hgd hcl
      go_simp
      refine HS.out.mono ?_
      rintro e w' ⟨rfl, rfl⟩
      exact hK _ _ (fun _ _ h => h) hJ (fun _ => rfl)
    | 11, ho, hd =>
      have ho' := ho
      simp only [List.getElem?_toArray, List.getElem?_cons_zero, List.getElem?_cons_succ, Option.some.injEq] at ho hd
      subst ho hd
      have r19 : a.eval (.tmp 19) = .bool true := (hdep ⟨7, .data⟩ (by simp) rfl).2 19 rfl
      rw [Vals.eval_tmp] at r19
      have r22 : a.eval (.tmp 22) = .bool true := (hdep ⟨10, .data⟩ (by simp) rfl).2 22 rfl
      rw [Vals.eval_tmp] at r22
      refine Vals.wpOp_run ho' rfl ?_
      clear hdep hfr ho' hdf hcl
      go_simp
      exact hK _ _ (fun _ _ h => h) hJ (fun _ => rfl)
    | 12, ho, hd =>
      have ho' := ho
      simp only [List.getElem?_toArray, List.getElem?_cons_zero, List.getElem?_cons_succ, Option.some.injEq] at ho hd
      subst ho hd
      have r23 : a.eval (.tmp 23) = .bool true := (hdep ⟨11, .data⟩ (by simp) rfl).2 23 rfl
      rw [Vals.eval_tmp] at r23
      refine Vals.wpOp_run ho' rfl ?_
      clear hdep hfr ho' hdf hcl
      go_simp
      exact hK _ _ (fun _ _ h => h) hJ (fun _ => rfl)
    | 13, ho, hd =>
      have ho' := ho
      simp only [List.getElem?_toArray, List.getElem?_cons_zero, List.getElem?_cons_succ, Option.some.injEq] at ho hd
      subst ho hd
      have hgd : a.eval (.tmp 24) = .bool true := (hdep ⟨12, .guard⟩ (by simp) rfl).2 24 rfl
      refine Vals.wpOp_run ho' (by unfold Region.wanted; simp only []; rw [Vals.yielded_of (d := 24) rfl hgd]; rfl) ?_
      clear hdep hfr ho' hdf hgd hcl
      go_simp
      refine (WK W (HT.out.below hJ HT.out.lt)).mono ?_
      rintro e w' ⟨rfl, hb3⟩
      exact hK _ _ (KWrq_mono hb3) (hJ.trans (hb3.mono hJ.size)) (fun _ => rfl)
    | 14, ho, hd =>
      have ho' := ho
      simp only [List.getElem?_toArray, List.getElem?_cons_zero, List.getElem?_cons_succ, Option.some.injEq] at ho hd
      subst ho hd
      have r24 : a.eval (.tmp 24) = .bool true := (hdep ⟨12, .data⟩ (by simp) rfl).2 24 rfl
      rw [Vals.eval_tmp] at r24
      have r25 : a.eval (.tmp 25) = .bool true := (hdep ⟨13, .data⟩ (by simp) rfl).2 25 rfl
      rw [Vals.eval_tmp] at r25
      refine Vals.wpOp_run ho' rfl ?_
      clear hdep hfr ho' hdf hcl
      go_simp
      exact hK _ _ (fun _ _ h => h) hJ (fun _ => rfl)
    | 15, ho, hd =>
      have ho' := ho
      simp only [List.getElem?_toArray, List.getElem?_cons_zero, List.getElem?_cons_succ, Option.some.injEq] at ho hd
      subst ho hd
      have r26 : a.eval (.tmp 26) = .bool true := (hdep ⟨14, .data⟩ (by simp) rfl).2 26 rfl
      rw [Vals.eval_tmp] at r26
      refine Vals.wpOp_run ho' rfl ?_
      clear hdep hfr ho' hdf hcl
      go_simp
      exact hK _ _ (fun _ _ h => h) hJ (fun _ => rfl)
    | i + 16, ho, hd => simp at ho
  case fin =>
    intro listed W f' hall hJ hG
    have q0 : f' 12 = .slice a1 len c1 := hG 0 12 rfl
    have q1 : f' 13 = .agg #[.int .i64 k.born, .int .u32 k.own, .int .u32 k.peer, .int .u32 k.otsn, .int .u32 k.ptsn, .int .u32 k.rwnd, .int .u16 k.out, .int .u16 k.inn] := hG 1 13 rfl
    obtain ⟨aw_14, cw_14, q2, hq14_0⟩ : ∃ aw_14 cw_14, f' 14 = .slice aw_14 64 cw_14 ∧ Reads W aw_14 64 (writeK zs k) := hG 2 14 rfl
    have q3 : f' 15 = .slice p len cap := hG 3 15 rfl
    have q4 : f' 16 = .agg #[.int .i64 k.born, .int .u32 k.own, .int .u32 k.peer, .int .u32 k.otsn, .int .u32 k.ptsn, .int .u32 k.rwnd, .int .u16 k.out, .int .u16 k.inn] := hG 4 16 rfl
    obtain ⟨ar_17, cr_17, q5, hq17_0⟩ : ∃ ar_17 cr_17, f' 17 = .slice ar_17 64 cr_17 ∧ Reads W ar_17 64 (writeK zs k) := hG 5 17 rfl
    have q6 : f' 18 = .bool true := hG 6 18 rfl
    have q7 : f' 19 = .bool true := hG 7 19 rfl
    have q8 : f' 20 = .slice a1 len c1 := hG 8 20 rfl
    have q9 : f' 21 = .slice p len cap := hG 9 21 rfl
    have q10 : f' 22 = .bool true := hG 10 22 rfl
    have q11 : f' 23 = .bool true := hG 11 23 rfl
    have q12 : f' 24 = .bool true := hG 12 24 rfl
    have q13 : f' 25 = .bool true := hG 13 25 rfl
    have q14 : f' 26 = .bool true := hG 14 26 rfl
    have q15 : f' 4 = .bool true := hG 15 4 rfl
    clear hG hall
    simp only [Vals.puts, Vals.pairs, List.filterMap_cons, List.filterMap_nil, id, List.map_cons, List.map_nil, List.foldl_cons, List.foldl_nil, q0, q1, q2, q3, q4, q5, q6, q7, q8, q9, q10, q11, q12, q13, q14, q15]
    clear q0 q1 q2 q3 q4 q5 q6 q7 q8 q9 q10 q11 q12 q13 q14 q15
    go_frame
    have HW := Lib.hid (HB1.out.trans (hJ.mono HB1.out.size))
    clear hJ
    go_wp2
    go_ret
    exact ⟨rfl, HW.out⟩
end Go.Proofs.YtcmaclaiholpfaaDoor
