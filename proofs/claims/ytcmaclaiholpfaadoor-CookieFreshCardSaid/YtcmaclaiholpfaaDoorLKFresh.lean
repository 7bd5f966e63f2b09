/-
  The walk of CookieFresh. Written by genkfresh.py.
-/
import Derived.Test.YtcmaclaiholpfaaDoorKApi
import Derived.Test.YtcmaclaiholpfaaDoorMgA
namespace Go.Proofs.YtcmaclaiholpfaaDoor
open Go.RowKit
set_option linter.unusedVariables false
set_option linter.unusedSimpArgs false

theorem zero4 : (0 : Int) ≤ 0 ∧ (0 : Int) < 4294967296 := by decide
theorem zero2 : (0 : Int) ≤ 0 ∧ (0 : Int) < 65536 := by decide
theorem freshK_no {k : KV} {now life : Int} (h : life < 0 ∨ now < k.born) : freshK k now life = false := by
  unfold freshK
  simp only [Bool.and_eq_false_iff, decide_eq_false_iff_not]
  omega
theorem freshK_late {k : KV} {now life : Int} (h : life < now - k.born) : freshK k now life = false := by
  unfold freshK
  simp only [Bool.and_eq_false_iff, decide_eq_false_iff_not]
  omega
theorem freshK_yes {k : KV} {now life : Int} (h0 : 0 ≤ life) (h1 : k.born ≤ now) (h2 : now - k.born ≤ life) : freshK k now life = true := by
  unfold freshK
  simp only [Bool.and_eq_true, decide_eq_true_eq]
  omega

/-- What the operations of the drawn region leave behind. -/
def KFrq (w wE : World) (born now life : Int) (fr : Bool) (i : Nat) (v : Value) (W : World) : Prop := match i with | 0 => v = .agg #[.int .i64 born, .int .u32 0, .int .u32 0, .int .u32 0, .int .u32 0, .int .u32 0, .int .u16 0, .int .u16 0] | 1 => v = .int .i64 now | 2 => v = .int .i64 life | 3 => v = .bool fr | 4 => v = .agg #[.int .i64 born, .int .u32 0, .int .u32 0, .int .u32 0, .int .u32 0, .int .u32 0, .int .u16 0, .int .u16 0] | 5 => v = .int .i64 now | 6 => v = .int .i64 life | 7 => v = .bool fr | 8 => v = .bool false | _ => True
theorem KFrq_mono {w wE : World} {born now life : Int} {fr : Bool} {W W' : World} (hb : Below W.heap.size W W') (jo : Nat) (xo : Value) (h : KFrq w wE born now life fr jo xo W) : KFrq w wE born now life fr jo xo W' := by
  unfold KFrq at h ⊢
  split at h <;> try exact h
theorem KFrq_any {w wE : World} {born now life : Int} {fr : Bool} {W W' : World} (jo : Nat) (xo : Value) (h : KFrq w wE born now life fr jo xo W) : KFrq w wE born now life fr jo xo W' := by
  unfold KFrq at h ⊢
  split at h <;> exact h

set_option maxRecDepth 10000 in
set_option maxHeartbeats 6400000 in
theorem cookieFresh_of (KF : KFreshOk) (WK : KWorks) (born now life : Int) (w : World) (v0 : (Lit.int .i64 born).wf = true) (v1 : (Lit.int .i64 now).wf = true) (v2 : (Lit.int .i64 life).wf = true) (ht : Tab w) :
    Calls Tryd.prog 7 #[.int .i64 born, .int .i64 now, .int .i64 life] w fun e w' => e = .returned (.bool true) ∧ Below w.heap.size w w' := by
  have b0 : -9223372036854775808 ≤ born ∧ born < 9223372036854775808 := by have := wf_i64_in v0; omega
  have n0 : -9223372036854775808 ≤ now ∧ now < 9223372036854775808 := by have := wf_i64_in v1; omega
  have l0 : -9223372036854775808 ≤ life ∧ life < 9223372036854775808 := by have := wf_i64_in v2; omega
  clear v0 v1 v2
  obtain ⟨K, hK⟩ : ∃ K : KV, K = ⟨born, 0, 0, 0, 0, 0, 0, 0⟩ := ⟨_, rfl⟩
  have hok : K.ok := by rw [hK]; exact ⟨b0, zero4, zero4, zero4, zero4, zero4, zero2, zero2⟩
  have hv : K.val = .agg #[.int .i64 born, .int .u32 0, .int .u32 0, .int .u32 0, .int .u32 0, .int .u32 0, .int .u16 0, .int .u16 0] := by rw [hK]; rfl
  have hbo : K.born = born := by rw [hK]
  have hkf := fun (n l : Int) (W : World) (hn : -9223372036854775808 ≤ n ∧ n < 9223372036854775808) (hl : -9223372036854775808 ≤ l ∧ l < 9223372036854775808) => KF K n l W hok hn hl
  have hrf := fun (n l : Int) (W : World) (hn : -9223372036854775808 ≤ n ∧ n < 9223372036854775808) (hl : -9223372036854775808 ≤ l ∧ l < 9223372036854775808) => rfresh_any K n l W hok hn hl
  rw [hv] at hkf hrf
  have HF := Lib.hid hkf
  have HR := Lib.hid hrf
  have HBO := Lib.hid hbo
  have HT := Lib.hid ht
  clear hkf hrf hv hok hK hbo ht
  obtain ⟨w0, hw0⟩ : ∃ w0, w0 = w.alloc (.cells #[.int .i64 born, .int .u32 0, .int .u32 0, .int .u32 0, .int .u32 0, .int .u32 0, .int .u16 0, .int .u16 0] 26) := ⟨_, rfl⟩
  have hb0 : Below w.heap.size w w0 := by rw [hw0]; exact (Below.refl _ _).alloc (Nat.le_refl _) _
  have hA0 : Arr w0 w.heap.size 26 [.int .i64 born, .int .u32 0, .int .u32 0, .int .u32 0, .int .u32 0, .int .u32 0, .int .u16 0, .int .u16 0] := by rw [hw0]; exact arr_new _ _ _
  have HB0 := Lib.hid hb0
  have HX := Lib.hid hA0
  clear hb0 hA0
  go_enter Tryd.func7, Tryd.ntmps7
  go_upto_region 2 with fail
  rw [← hw0]
  clear hw0
  obtain ⟨fr, hfr⟩ : ∃ fr, fr = freshK K now life := ⟨_, rfl⟩
  have HKF := Lib.hid (fun W => HF.out now life W n0 l0)
  have HRF := Lib.hid (fun W => HR.out now life W n0 l0)
  rw [← hfr] at HKF HRF
  have HFR := Lib.hid hfr
  clear hfr
  generalize w0 = wE at *
  refine wp_region_any (by kernel_rfl) ?_
  refine Vals.wpAny_goodW (KFrq w wE born now life fr) (fun _ => (fun W => Below wE.heap.size wE W)) [some 10, some 11, some 12, some 13, some 14, some 15, some 16, some 17, some 18] 80 _ _ rfl (by kernel_rfl) (by kernel_rfl) (by decide) ?step ?fin (Below.refl _ _).drew
  case step =>
    intro i o d ho hd listed a W hls hun hcl hJ hdf hdep hfr K hK
    match i, ho, hd with
    | 0, ho, hd =>
      have ho' := ho
      simp only [List.getElem?_toArray, List.getElem?_cons_zero, Option.some.injEq] at ho hd
      subst ho hd
      have r7 : a.eval (.tmp 7) = .pointer (some ⟨w.heap.size, 0, none⟩) := hfr 7 (by decide)
      rw [Vals.eval_tmp] at r7
      have c0 := (HX.out.keep hJ).cell (i := 0) rfl
      have c1 := (HX.out.keep hJ).cell (i := 1) rfl
      have c2 := (HX.out.keep hJ).cell (i := 2) rfl
      have c3 := (HX.out.keep hJ).cell (i := 3) rfl
      have c4 := (HX.out.keep hJ).cell (i := 4) rfl
      have c5 := (HX.out.keep hJ).cell (i := 5) rfl
      have c6 := (HX.out.keep hJ).cell (i := 6) rfl
      have c7 := (HX.out.keep hJ).cell (i := 7) rfl
      refine Vals.wpOp_run ho' rfl ?_
      clear hdep hfr ho' hdf hcl
      go_simp
      exact hK _ _ (fun _ _ h => h) hJ (fun _ => rfl)
    | 1, ho, hd =>
      have ho' := ho
      simp only [List.getElem?_toArray, List.getElem?_cons_zero, List.getElem?_cons_succ, Option.some.injEq] at ho hd
      subst ho hd
      have r1 : a.eval (.tmp 1) = .int .i64 now := hfr 1 (by decide)
      rw [Vals.eval_tmp] at r1
      refine Vals.wpOp_run ho' rfl ?_
      clear hdep hfr ho' hdf hcl
      go_simp
      exact hK _ _ (fun _ _ h => h) hJ (fun _ => rfl)
    | 2, ho, hd =>
      have ho' := ho
      simp only [List.getElem?_toArray, List.getElem?_cons_zero, List.getElem?_cons_succ, Option.some.injEq] at ho hd
      subst ho hd
      have r2 : a.eval (.tmp 2) = .int .i64 life := hfr 2 (by decide)
      rw [Vals.eval_tmp] at r2
      refine Vals.wpOp_run ho' rfl ?_
      clear hdep hfr ho' hdf hcl
      go_simp
      exact hK _ _ (fun _ _ h => h) hJ (fun _ => rfl)
    | 3, ho, hd =>
      have ho' := ho
      simp only [List.getElem?_toArray, List.getElem?_cons_zero, List.getElem?_cons_succ, Option.some.injEq] at ho hd
      subst ho hd
      have r10 : a.eval (.tmp 10) = .agg #[.int .i64 born, .int .u32 0, .int .u32 0, .int .u32 0, .int .u32 0, .int .u32 0, .int .u16 0, .int .u16 0] := (hdep ⟨0, .data⟩ (by simp) rfl).2 10 rfl
      rw [Vals.eval_tmp] at r10
      have r11 : a.eval (.tmp 11) = .int .i64 now := (hdep ⟨1, .data⟩ (by simp) rfl).2 11 rfl
      rw [Vals.eval_tmp] at r11
      have r12 : a.eval (.tmp 12) = .int .i64 life := (hdep ⟨2, .data⟩ (by simp) rfl).2 12 rfl
      rw [Vals.eval_tmp] at r12
      refine Vals.wpOp_run ho' rfl ?_
      clear hdep hfr ho' hdf hcl
      go_simp
      refine (HKF.out W).mono ?_
      rintro e w' ⟨rfl, hb3⟩
      exact hK _ _ (KFrq_mono hb3) (hJ.trans (hb3.mono hJ.size)) (fun _ => rfl)
    | 4, ho, hd =>
      have ho' := ho
      simp only [List.getElem?_toArray, List.getElem?_cons_zero, List.getElem?_cons_succ, Option.some.injEq] at ho hd
      subst ho hd
      have r7 : a.eval (.tmp 7) = .pointer (some ⟨w.heap.size, 0, none⟩) := hfr 7 (by decide)
      rw [Vals.eval_tmp] at r7
      have c0 := (HX.out.keep hJ).cell (i := 0) rfl
      have c1 := (HX.out.keep hJ).cell (i := 1) rfl
      have c2 := (HX.out.keep hJ).cell (i := 2) rfl
      have c3 := (HX.out.keep hJ).cell (i := 3) rfl
      have c4 := (HX.out.keep hJ).cell (i := 4) rfl
      have c5 := (HX.out.keep hJ).cell (i := 5) rfl
      have c6 := (HX.out.keep hJ).cell (i := 6) rfl
      have c7 := (HX.out.keep hJ).cell (i := 7) rfl
      refine Vals.wpOp_run ho' rfl ?_
      clear hdep hfr ho' hdf hcl
      go_simp
      exact hK _ _ (fun _ _ h => h) hJ (fun _ => rfl)
    | 5, ho, hd =>
      have ho' := ho
      simp only [List.getElem?_toArray, List.getElem?_cons_zero, List.getElem?_cons_succ, Option.some.injEq] at ho hd
      subst ho hd
      have r1 : a.eval (.tmp 1) = .int .i64 now := hfr 1 (by decide)
      rw [Vals.eval_tmp] at r1
      refine Vals.wpOp_run ho' rfl ?_
      clear hdep hfr ho' hdf hcl
      go_simp
      exact hK _ _ (fun _ _ h => h) hJ (fun _ => rfl)
    | 6, ho, hd =>
      have ho' := ho
      simp only [List.getElem?_toArray, List.getElem?_cons_zero, List.getElem?_cons_succ, Option.some.injEq] at ho hd
      subst ho hd
      have r2 : a.eval (.tmp 2) = .int .i64 life := hfr 2 (by decide)
      rw [Vals.eval_tmp] at r2
      refine Vals.wpOp_run ho' rfl ?_
      clear hdep hfr ho' hdf hcl
      go_simp
      exact hK _ _ (fun _ _ h => h) hJ (fun _ => rfl)
    | 7, ho, hd =>
      have ho' := ho
      simp only [List.getElem?_toArray, List.getElem?_cons_zero, List.getElem?_cons_succ, Option.some.injEq] at ho hd
      subst ho hd
      have r14 : a.eval (.tmp 14) = .agg #[.int .i64 born, .int .u32 0, .int .u32 0, .int .u32 0, .int .u32 0, .int .u32 0, .int .u16 0, .int .u16 0] := (hdep ⟨4, .data⟩ (by simp) rfl).2 14 rfl
      rw [Vals.eval_tmp] at r14
      have r15 : a.eval (.tmp 15) = .int .i64 now := (hdep ⟨5, .data⟩ (by simp) rfl).2 15 rfl
      rw [Vals.eval_tmp] at r15
      have r16 : a.eval (.tmp 16) = .int .i64 life := (hdep ⟨6, .data⟩ (by simp) rfl).2 16 rfl
      rw [Vals.eval_tmp] at r16
      refine Vals.wpOp_run ho' rfl ?_
      clear hdep hfr ho' hdf hcl
      go_simp
      refine (HRF.out W).mono ?_
      rintro e w' ⟨rfl, hb3⟩
      exact hK _ _ (KFrq_mono hb3) (hJ.trans (hb3.mono hJ.size)) (fun _ => rfl)
    | 8, ho, hd =>
      have ho' := ho
      simp only [List.getElem?_toArray, List.getElem?_cons_zero, List.getElem?_cons_succ, Option.some.injEq] at ho hd
      subst ho hd
      have r13 : a.eval (.tmp 13) = .bool fr := (hdep ⟨3, .data⟩ (by simp) rfl).2 13 rfl
      rw [Vals.eval_tmp] at r13
      have r17 : a.eval (.tmp 17) = .bool fr := (hdep ⟨7, .data⟩ (by simp) rfl).2 17 rfl
      rw [Vals.eval_tmp] at r17
      refine Vals.wpOp_run ho' rfl ?_
      clear hdep hfr ho' hdf hcl
      go_simp
      exact hK _ _ (fun _ _ h => h) hJ (fun _ => rfl)
    | i + 9, ho, hd => simp at ho
  case fin =>
    intro listed W f' hall hJ hG
    have q0 : f' 10 = .agg #[.int .i64 born, .int .u32 0, .int .u32 0, .int .u32 0, .int .u32 0, .int .u32 0, .int .u16 0, .int .u16 0] := hG 0 10 rfl
    have q1 : f' 11 = .int .i64 now := hG 1 11 rfl
    have q2 : f' 12 = .int .i64 life := hG 2 12 rfl
    have q3 : f' 13 = .bool fr := hG 3 13 rfl
    have q4 : f' 14 = .agg #[.int .i64 born, .int .u32 0, .int .u32 0, .int .u32 0, .int .u32 0, .int .u32 0, .int .u16 0, .int .u16 0] := hG 4 14 rfl
    have q5 : f' 15 = .int .i64 now := hG 5 15 rfl
    have q6 : f' 16 = .int .i64 life := hG 6 16 rfl
    have q7 : f' 17 = .bool fr := hG 7 17 rfl
    have q8 : f' 18 = .bool false := hG 8 18 rfl
    clear hG hall
    simp only [Vals.puts, Vals.pairs, List.filterMap_cons, List.filterMap_nil, id, List.map_cons, List.map_nil, List.foldl_cons, List.foldl_nil, q0, q1, q2, q3, q4, q5, q6, q7, q8]
    clear q0 q1 q2 q3 q4 q5 q6 q7 q8
    go_frame
    have HB1 := Lib.hid (HB0.out.trans (hJ.mono HB0.out.size))
    have HX1 := Lib.hid (HX.out.keep hJ)
    clear hJ HX HKF HRF
    generalize W = w1 at *
    by_cases g1 : life < 0
    · skip
      have hc := HF.out (now) life w1 (n0) l0
      rw [freshK_no (.inl g1)] at hc
      have HC := Lib.hid hc
      clear hc
      have c0 := (HX1.out).cell (i := 0) rfl
      have c1 := (HX1.out).cell (i := 1) rfl
      have c2 := (HX1.out).cell (i := 2) rfl
      have c3 := (HX1.out).cell (i := 3) rfl
      have c4 := (HX1.out).cell (i := 4) rfl
      have c5 := (HX1.out).cell (i := 5) rfl
      have c6 := (HX1.out).cell (i := 6) rfl
      have c7 := (HX1.out).cell (i := 7) rfl
      go_wp2_with fail
      refine HC.out.mono ?_
      rintro e w2 ⟨rfl, hb⟩
      have HB2 := Lib.hid (HB1.out.trans (hb.mono HB1.out.size))
      have HX2 := Lib.hid (HX1.out.keep hb)
      clear c0 c1 c2 c3 c4 c5 c6 c7
      clear hb HC HB1 HX1
      go_wp2_with fail
      refine (WK w2 (HT.out.below HB2.out HT.out.lt)).mono ?_
      rintro e w' ⟨rfl, hb⟩
      have HW := Lib.hid (HB2.out.trans (hb.mono HB2.out.size))
      clear hb
      go_wp2
      go_ret
      exact ⟨by simp, HW.out⟩
    by_cases g2 : now < born
    · skip
      have hc := HF.out (now) life w1 (n0) l0
      rw [freshK_no (.inr (by rw [HBO.out]; exact g2))] at hc
      have HC := Lib.hid hc
      clear hc
      have c0 := (HX1.out).cell (i := 0) rfl
      have c1 := (HX1.out).cell (i := 1) rfl
      have c2 := (HX1.out).cell (i := 2) rfl
      have c3 := (HX1.out).cell (i := 3) rfl
      have c4 := (HX1.out).cell (i := 4) rfl
      have c5 := (HX1.out).cell (i := 5) rfl
      have c6 := (HX1.out).cell (i := 6) rfl
      have c7 := (HX1.out).cell (i := 7) rfl
      go_wp2_with fail
      refine HC.out.mono ?_
      rintro e w2 ⟨rfl, hb⟩
      have HB2 := Lib.hid (HB1.out.trans (hb.mono HB1.out.size))
      have HX2 := Lib.hid (HX1.out.keep hb)
      clear c0 c1 c2 c3 c4 c5 c6 c7
      clear hb HC HB1 HX1
      go_wp2_with fail
      refine (WK w2 (HT.out.below HB2.out HT.out.lt)).mono ?_
      rintro e w' ⟨rfl, hb⟩
      have HW := Lib.hid (HB2.out.trans (hb.mono HB2.out.size))
      clear hb
      go_wp2
      go_ret
      exact ⟨by simp, HW.out⟩
    have hc := HF.out (born) life w1 (b0) l0
    rw [freshK_yes (by omega) (by rw [HBO.out]; omega) (by rw [HBO.out]; omega)] at hc
    have HC := Lib.hid hc
    clear hc
    have c0 := (HX1.out).cell (i := 0) rfl
    have c1 := (HX1.out).cell (i := 1) rfl
    have c2 := (HX1.out).cell (i := 2) rfl
    have c3 := (HX1.out).cell (i := 3) rfl
    have c4 := (HX1.out).cell (i := 4) rfl
    have c5 := (HX1.out).cell (i := 5) rfl
    have c6 := (HX1.out).cell (i := 6) rfl
    have c7 := (HX1.out).cell (i := 7) rfl
    go_wp2_with fail
    refine HC.out.mono ?_
    rintro e w2 ⟨rfl, hb⟩
    have HB2 := Lib.hid (HB1.out.trans (hb.mono HB1.out.size))
    have HX2 := Lib.hid (HX1.out.keep hb)
    clear c0 c1 c2 c3 c4 c5 c6 c7
    clear hb HC HB1 HX1
    by_cases g3 : -9223372036854775808 < born
    · skip
      have hc := HF.out (born - 1) life w2 (⟨by omega, by omega⟩) l0
      rw [freshK_no (.inr (by rw [HBO.out]; omega))] at hc
      have HC := Lib.hid hc
      clear hc
      have c0 := (HX2.out).cell (i := 0) rfl
      have c1 := (HX2.out).cell (i := 1) rfl
      have c2 := (HX2.out).cell (i := 2) rfl
      have c3 := (HX2.out).cell (i := 3) rfl
      have c4 := (HX2.out).cell (i := 4) rfl
      have c5 := (HX2.out).cell (i := 5) rfl
      have c6 := (HX2.out).cell (i := 6) rfl
      have c7 := (HX2.out).cell (i := 7) rfl
      go_wp2_with fail
      refine HC.out.mono ?_
      rintro e w3 ⟨rfl, hb⟩
      have HB3 := Lib.hid (HB2.out.trans (hb.mono HB2.out.size))
      have HX3 := Lib.hid (HX2.out.keep hb)
      clear c0 c1 c2 c3 c4 c5 c6 c7
      clear hb HC HB2 HX2
      by_cases p1 : 0 ≤ born
      · skip
        by_cases p2 : born ≤ 4611686018427387904
        · skip
          by_cases p3 : life < 4611686018427387904
          · skip
            have hc := HF.out (born + life) life w3 (⟨by omega, by omega⟩) l0
            rw [freshK_yes (by omega) (by rw [HBO.out]; omega) (by rw [HBO.out]; omega)] at hc
            have HC := Lib.hid hc
            clear hc
            have c0 := (HX3.out).cell (i := 0) rfl
            have c1 := (HX3.out).cell (i := 1) rfl
            have c2 := (HX3.out).cell (i := 2) rfl
            have c3 := (HX3.out).cell (i := 3) rfl
            have c4 := (HX3.out).cell (i := 4) rfl
            have c5 := (HX3.out).cell (i := 5) rfl
            have c6 := (HX3.out).cell (i := 6) rfl
            have c7 := (HX3.out).cell (i := 7) rfl
            go_wp2_with fail
            refine HC.out.mono ?_
            rintro e w4 ⟨rfl, hb⟩
            have HB4 := Lib.hid (HB3.out.trans (hb.mono HB3.out.size))
            have HX4 := Lib.hid (HX3.out.keep hb)
            clear c0 c1 c2 c3 c4 c5 c6 c7
            clear hb HC HB3 HX3
            by_cases p4 : born + life + 1 < 9223372036854775808
            · skip
              have hc := HF.out (born + life + 1) life w4 (⟨by omega, p4⟩) l0
              rw [freshK_late (by rw [HBO.out]; omega)] at hc
              have HC := Lib.hid hc
              clear hc
              have c0 := (HX4.out).cell (i := 0) rfl
              have c1 := (HX4.out).cell (i := 1) rfl
              have c2 := (HX4.out).cell (i := 2) rfl
              have c3 := (HX4.out).cell (i := 3) rfl
              have c4 := (HX4.out).cell (i := 4) rfl
              have c5 := (HX4.out).cell (i := 5) rfl
              have c6 := (HX4.out).cell (i := 6) rfl
              have c7 := (HX4.out).cell (i := 7) rfl
              go_wp2_with fail
              refine HC.out.mono ?_
              rintro e w5 ⟨rfl, hb⟩
              have HB5 := Lib.hid (HB4.out.trans (hb.mono HB4.out.size))
              have HX5 := Lib.hid (HX4.out.keep hb)
              clear c0 c1 c2 c3 c4 c5 c6 c7
              clear hb HC HB4 HX4
              go_wp2_with fail
              refine (WK w5 (HT.out.below HB5.out HT.out.lt)).mono ?_
              rintro e w' ⟨rfl, hb⟩
              have HW := Lib.hid (HB5.out.trans (hb.mono HB5.out.size))
              clear hb
              go_wp2
              go_ret
              exact ⟨by simp, HW.out⟩
            · skip
              have hc := HF.out (wrap64 (born + life + 1)) life w4 (by unfold wrap64; omega) l0
              rw [freshK_no (.inr (by rw [HBO.out]; unfold wrap64; omega))] at hc
              have HC := Lib.hid hc
              clear hc
              have c0 := (HX4.out).cell (i := 0) rfl
              have c1 := (HX4.out).cell (i := 1) rfl
              have c2 := (HX4.out).cell (i := 2) rfl
              have c3 := (HX4.out).cell (i := 3) rfl
              have c4 := (HX4.out).cell (i := 4) rfl
              have c5 := (HX4.out).cell (i := 5) rfl
              have c6 := (HX4.out).cell (i := 6) rfl
              have c7 := (HX4.out).cell (i := 7) rfl
              go_wp2_with fail
              refine HC.out.mono ?_
              rintro e w5 ⟨rfl, hb⟩
              have HB5 := Lib.hid (HB4.out.trans (hb.mono HB4.out.size))
              have HX5 := Lib.hid (HX4.out.keep hb)
              clear c0 c1 c2 c3 c4 c5 c6 c7
              clear hb HC HB4 HX4
              go_wp2_with fail
              refine (WK w5 (HT.out.below HB5.out HT.out.lt)).mono ?_
              rintro e w' ⟨rfl, hb⟩
              have HW := Lib.hid (HB5.out.trans (hb.mono HB5.out.size))
              clear hb
              go_wp2
              go_ret
              exact ⟨by simp, HW.out⟩
          · skip
            go_wp2_with fail
            refine (WK w3 (HT.out.below HB3.out HT.out.lt)).mono ?_
            rintro e w' ⟨rfl, hb⟩
            have HW := Lib.hid (HB3.out.trans (hb.mono HB3.out.size))
            clear hb
            go_wp2
            go_ret
            exact ⟨by simp, HW.out⟩
        · skip
          go_wp2_with fail
          refine (WK w3 (HT.out.below HB3.out HT.out.lt)).mono ?_
          rintro e w' ⟨rfl, hb⟩
          have HW := Lib.hid (HB3.out.trans (hb.mono HB3.out.size))
          clear hb
          go_wp2
          go_ret
          exact ⟨by simp, HW.out⟩
      · skip
        go_wp2_with fail
        refine (WK w3 (HT.out.below HB3.out HT.out.lt)).mono ?_
        rintro e w' ⟨rfl, hb⟩
        have HW := Lib.hid (HB3.out.trans (hb.mono HB3.out.size))
        clear hb
        go_wp2
        go_ret
        exact ⟨by simp, HW.out⟩
    · skip
      have p1 : ¬ 0 ≤ born := by omega
      go_wp2_with fail
      refine (WK w2 (HT.out.below HB2.out HT.out.lt)).mono ?_
      rintro e w' ⟨rfl, hb⟩
      have HW := Lib.hid (HB2.out.trans (hb.mono HB2.out.size))
      clear hb
      go_wp2
      go_ret
      exact ⟨by simp, HW.out⟩
end Go.Proofs.YtcmaclaiholpfaaDoor
