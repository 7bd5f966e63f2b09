/-
  The walk of MacOnce.
-/
import Derived.Test.YtlgcplopibblbaaDoorLMacSums
import Derived.Test.YtlgcplopibblbaaDoorVals
namespace Go.Proofs.YtlgcplopibblbaaDoor
open Go.RowKit
set_option linter.unusedVariables false

theorem once_keep {w W W' : World} {g1 g2 g3 : Nat} {A B C : List Value} (h : Below w.heap.size w W ∧ Arr W g1 25 A ∧ Arr W g2 25 B ∧ Arr W g3 25 C) (hb : Below W.heap.size W W') :
    Below w.heap.size w W' ∧ Arr W' g1 25 A ∧ Arr W' g2 25 B ∧ Arr W' g3 25 C :=
  ⟨h.1.trans (hb.mono h.1.size), h.2.1.below hb h.2.1.lt, h.2.2.1.below hb h.2.2.1.lt, h.2.2.2.below hb h.2.2.2.lt⟩

set_option maxRecDepth 100000 in
set_option maxHeartbeats 6400000 in
theorem macOnce_walk (a : Option Addr) (len cap : Nat) (z : List Int) (b : Option Addr) (len2 cap2 : Nat) (z2 : List Int) (c : Option Addr) (len3 cap3 : Nat) (z3 : List Int) (w : World) (w0 : IsRow .u8 w a len cap z) (w1 : IsRow .u8 w b len2 cap2 z2) (w2 : IsRow .u8 w c len3 cap3 z3) (ht : Tab w) :
    Calls Tryd.prog 7 #[.slice a len cap, .slice b len2 cap2, .slice c len3 cap3] w fun e w' => e = .returned (.bool true) ∧ Below w.heap.size w w' := by
  obtain ⟨hr, hbyt, hcap, hmax⟩ := w0.reads
  obtain ⟨hr2, hbyt2, hcap2, hmax2⟩ := w1.reads
  obtain ⟨hr3, hbyt3, hcap3, hmax3⟩ := w2.reads
  clear w0 w1 w2
  generalize z.take len = zs at hr hbyt
  generalize z2.take len2 = ys at hr2 hbyt2
  generalize z3.take len3 = os at hr3 hbyt3
  have HT := Lib.hid ht
  have HR := Lib.hid (And.intro hr (And.intro hbyt (And.intro hcap hmax)))
  have HR2 := Lib.hid (And.intro hr2 (And.intro hbyt2 (And.intro hcap2 hmax2)))
  have HR3 := Lib.hid (And.intro hr3 (And.intro hbyt3 (And.intro hcap3 hmax3)))
  clear hr hbyt hr2 hbyt2 hr3 hbyt3 ht hcap hcap2 hcap3
  unfold maxLen at hmax hmax2 hmax3
  by_cases hlong : 4096 < len
  · have hg : (4096 : Int) < len := by omega
    go_enter Tryd.func7, Tryd.ntmps7
    go_wp2_with (go_at_call 8; refine (works_any _ HT.out).mono ?_; rintro e w' ⟨rfl, hb⟩)
    go_ret
    exact ⟨rfl, hb⟩
  by_cases hlong2 : 4096 < len2
  · have hg : ¬ (4096 : Int) < len := by omega
    have hg2 : (4096 : Int) < len2 := by omega
    go_enter Tryd.func7, Tryd.ntmps7
    go_wp2_with (go_at_call 8; refine (works_any _ HT.out).mono ?_; rintro e w' ⟨rfl, hb⟩)
    go_ret
    exact ⟨rfl, hb⟩
  by_cases hlong3 : 4096 < len3
  · have hg : ¬ (4096 : Int) < len := by omega
    have hg2 : ¬ (4096 : Int) < len2 := by omega
    have hg3 : (4096 : Int) < len3 := by omega
    go_enter Tryd.func7, Tryd.ntmps7
    go_wp2_with (go_at_call 8; refine (works_any _ HT.out).mono ?_; rintro e w' ⟨rfl, hb⟩)
    go_ret
    exact ⟨rfl, hb⟩
  have hg : ¬ (4096 : Int) < len := by omega
  have hg2 : ¬ (4096 : Int) < len2 := by omega
  have hg3 : ¬ (4096 : Int) < len3 := by omega
  have hone : ∀ k t : List Int, ((hmac k t).map (Value.int .u8)).toArray.all (·.oneCell') = true := fun k t => dv_one _
  have hinfo : ∀ k t : List Int, (Tryd.prog.info? 25).map (·.size) = some ((hmac k t).map (Value.int .u8)).toArray.size := fun k t => by rw [List.size_toArray, List.length_map, hmac_len]; exact infoA
  have hsz : ∀ k t : List Int, 32 = ((hmac k t).map (Value.int .u8)).toArray.size := fun k t => by rw [List.size_toArray, List.length_map, hmac_len]
  have HONE := Lib.hid (And.intro hone (And.intro hinfo hsz))
  clear hone hinfo hsz
  have hs := msum_any a len cap zs b len2 cap2 ys w HR.out.1 HR.out.2.1 (by omega) HR.out.2.2.1 HR2.out.1 HR2.out.2.1 (by omega) HR2.out.2.2.1 HT.out
  obtain ⟨R, hR⟩ : ∃ R, R = ((hmac zs ys).map (Value.int .u8)).toArray := ⟨_, rfl⟩
  obtain ⟨S, hS⟩ : ∃ S, S = ((hmac os ys).map (Value.int .u8)).toArray := ⟨_, rfl⟩
  obtain ⟨U, hU⟩ : ∃ U, U = ((hmac zs os).map (Value.int .u8)).toArray := ⟨_, rfl⟩
  rw [show dv (hmac zs ys) = .agg R by rw [hR]] at hs
  have HS := Lib.hid hs
  have HRR := Lib.hid (And.intro hR (And.intro hS hU))
  clear hs hR hS hU
  go_enter Tryd.func7, Tryd.ntmps7
  go_wp2_with fail
  refine HS.out.mono ?_
  rintro e w1 ⟨rfl, hb1⟩
  obtain ⟨w2, hw2⟩ : ∃ w2, w1.alloc (.cells R 25) = w2 := ⟨_, rfl⟩
  have hb2 : Below w.heap.size w w2 := by rw [← hw2]; exact hb1.alloc hb1.size _
  have ha2 : Arr w2 w1.heap.size 25 ((hmac zs ys).map (Value.int .u8)) := by rw [← hw2, HRR.out.1]; exact arr_new w1 25 _
  have hs := msum_any c len3 cap3 os b len2 cap2 ys w2 (HR3.out.1.below hb2) HR3.out.2.1 (by omega) HR3.out.2.2.1 (HR2.out.1.below hb2) HR2.out.2.1 (by omega) HR2.out.2.2.1 (HT.out.below hb2 HT.out.lt)
  rw [show dv (hmac os ys) = .agg S by rw [HRR.out.2.1]] at hs
  have H2 := Lib.hid (And.intro hb2 ha2)
  have HS2 := Lib.hid hs
  have HW2 := Lib.hid hw2
  clear hb1 hb2 ha2 hs hw2 HS
  go_wp2_with (refine wpList_store_fresh rfl 25 (.tmp 7) (.tmp 26) rfl w1 _ rfl _ R rfl rfl (by rw [HRR.out.1]; exact HONE.out.2.1 _ _) (by rw [HRR.out.1]; exact HONE.out.2.2 _ _) (by rw [HRR.out.1]; exact HONE.out.1 _ _) ?_; rw [HW2.out])
  refine HS2.out.mono ?_
  rintro e w3 ⟨rfl, hb3⟩
  obtain ⟨w4, hw4⟩ : ∃ w4, w3.alloc (.cells S 25) = w4 := ⟨_, rfl⟩
  have hb4 : Below w2.heap.size w2 w4 := by rw [← hw4]; exact hb3.alloc hb3.size _
  have hb4w := H2.out.1.trans (hb4.mono H2.out.1.size)
  have ha4 := H2.out.2.below hb4 H2.out.2.lt
  have hc4 : Arr w4 w3.heap.size 25 ((hmac os ys).map (Value.int .u8)) := by rw [← hw4, HRR.out.2.1]; exact arr_new w3 25 _
  have hs := msum_any a len cap zs c len3 cap3 os w4 (HR.out.1.below hb4w) HR.out.2.1 (by omega) HR.out.2.2.1 (HR3.out.1.below hb4w) HR3.out.2.1 (by omega) HR3.out.2.2.1 (HT.out.below hb4w HT.out.lt)
  rw [show dv (hmac zs os) = .agg U by rw [HRR.out.2.2]] at hs
  have H4 := Lib.hid (And.intro hb4w (And.intro ha4 hc4))
  have HS4 := Lib.hid hs
  have HW4 := Lib.hid hw4
  clear hb3 hb4 hb4w ha4 hc4 hs hw4 HS2 H2
  go_wp2_with (refine wpList_store_fresh rfl 25 (.tmp 8) (.tmp 29) rfl w3 _ rfl _ S rfl rfl (by rw [HRR.out.2.1]; exact HONE.out.2.1 _ _) (by rw [HRR.out.2.1]; exact HONE.out.2.2 _ _) (by rw [HRR.out.2.1]; exact HONE.out.1 _ _) ?_; rw [HW4.out])
  refine HS4.out.mono ?_
  rintro e w5 ⟨rfl, hb5⟩
  obtain ⟨w6, hw6⟩ : ∃ w6, w5.alloc (.cells U 25) = w6 := ⟨_, rfl⟩
  have hb6 : Below w4.heap.size w4 w6 := by rw [← hw6]; exact hb5.alloc hb5.size _
  have H6 := Lib.hid (show Below w.heap.size w w6 ∧ Arr w6 w1.heap.size 25 ((hmac zs ys).map (Value.int .u8)) ∧ Arr w6 w3.heap.size 25 ((hmac os ys).map (Value.int .u8)) ∧ Arr w6 w5.heap.size 25 ((hmac zs os).map (Value.int .u8)) from
    ⟨H4.out.1.trans (hb6.mono H4.out.1.size), H4.out.2.1.below hb6 H4.out.2.1.lt, H4.out.2.2.below hb6 H4.out.2.2.lt, by rw [← hw6, HRR.out.2.2]; exact arr_new w5 25 _⟩)
  have HW6 := Lib.hid hw6
  clear hb5 hb6 hw6 HS4 H4
  go_wp2_with (refine wpList_store_fresh rfl 25 (.tmp 9) (.tmp 32) rfl w5 _ rfl _ U rfl rfl (by rw [HRR.out.2.2]; exact HONE.out.2.1 _ _) (by rw [HRR.out.2.2]; exact HONE.out.2.2 _ _) (by rw [HRR.out.2.2]; exact HONE.out.1 _ _) ?_; rw [HW6.out])
  refine wp_region_any (by kernel_rfl) ?_
  refine Vals.wpAny_vals [(33, dv (hmac zs ys)), (34, .slice a len cap), (35, .slice b len2 cap2), (36, dv (hmac zs ys)), (37, .bool true), (38, .bool true), (39, dv (hmac os ys)), (40, .slice c len3 cap3), (41, .slice b len2 cap2), (42, dv (hmac os ys)), (43, .bool true), (44, .bool true), (45, .bool true), (46, dv (hmac zs os)), (47, .slice a len cap), (48, .slice c len3 cap3), (49, dv (hmac zs os)), (50, .bool true), (51, .bool true), (52, .bool true), (53, .bool true), (54, .bool true), (6, .bool true)] [33, 34, 35, 36, 37, 38, 39, 40, 41, 42, 43, 44, 45, 46, 47, 48, 49, 50, 51, 52, 53, 54, 6] 55 (fun W => Below w.heap.size w W ∧ Arr W w1.heap.size 25 ((hmac zs ys).map (Value.int .u8)) ∧ Arr W w3.heap.size 25 ((hmac os ys).map (Value.int .u8)) ∧ Arr W w5.heap.size 25 ((hmac zs os).map (Value.int .u8))) _ _ rfl (by kernel_rfl) rfl (by kernel_rfl) (by decide) ?step ?fin ⟨H6.out.1.drew, H6.out.2.1, H6.out.2.2.1, H6.out.2.2.2⟩
  case step =>
    intro i o pp ho hp aa W hI hdf hdep hfr K hK
    match i, ho, hp with
      | 0, ho, hp =>
        have ho' := ho
        simp only [List.getElem?_toArray, List.getElem?_cons_zero, Option.some.injEq] at ho hp
        subst ho hp
        have r7 : aa.eval (.tmp 7) = .pointer (some ⟨w1.heap.size, 0, none⟩) := hfr 7 (by decide)
        rw [Vals.eval_tmp] at r7
        refine Vals.wpOp_run ho' rfl ?_
        clear hdf hdep hfr ho'
        refine wp_load_mid 25 (.tmp 7) rfl w1.heap.size 0 (by rw [Vals.eval_tmp]; exact r7) ((hmac zs ys).map (Value.int .u8)) (.array 32 5) hI.2.1.range (by kernel_rfl) rfl (by rw [List.length_map, hmac_len]; exact infoA) ?_
        exact hK _ hI
      | 1, ho, hp =>
        have ho' := ho
        simp only [List.getElem?_toArray, List.getElem?_cons_zero, List.getElem?_cons_succ, Option.some.injEq] at ho hp
        subst ho hp
        have r0 : aa.eval (.tmp 0) = .slice a len cap := hfr 0 (by decide)
        rw [Vals.eval_tmp] at r0
        refine Vals.wpOp_run ho' rfl ?_
        clear hdf hdep hfr ho'
        go_simp
        exact hK _ hI
      | 2, ho, hp =>
        have ho' := ho
        simp only [List.getElem?_toArray, List.getElem?_cons_zero, List.getElem?_cons_succ, Option.some.injEq] at ho hp
        subst ho hp
        have r1 : aa.eval (.tmp 1) = .slice b len2 cap2 := hfr 1 (by decide)
        rw [Vals.eval_tmp] at r1
        refine Vals.wpOp_run ho' rfl ?_
        clear hdf hdep hfr ho'
        go_simp
        exact hK _ hI
      | 3, ho, hp =>
        have ho' := ho
        simp only [List.getElem?_toArray, List.getElem?_cons_zero, List.getElem?_cons_succ, Option.some.injEq] at ho hp
        subst ho hp
        have r34 : aa.eval (.tmp 34) = .slice a len cap := hdep ⟨1, .data⟩ (by simp) rfl (34, .slice a len cap) rfl
        rw [Vals.eval_tmp] at r34
        have r35 : aa.eval (.tmp 35) = .slice b len2 cap2 := hdep ⟨2, .data⟩ (by simp) rfl (35, .slice b len2 cap2) rfl
        rw [Vals.eval_tmp] at r35
        refine Vals.wpOp_run ho' rfl ?_
        clear hdf hdep hfr ho'
        go_simp
        refine (msum_any a len cap zs b len2 cap2 ys _ (HR.out.1.below hI.1) HR.out.2.1 (by omega) HR.out.2.2.1 (HR2.out.1.below hI.1) HR2.out.2.1 (by omega) HR2.out.2.2.1 (HT.out.below hI.1 HT.out.lt)).mono ?_
        rintro e w' ⟨rfl, hb⟩
        exact hK _ (once_keep hI hb)
      | 4, ho, hp =>
        have ho' := ho
        simp only [List.getElem?_toArray, List.getElem?_cons_zero, List.getElem?_cons_succ, Option.some.injEq] at ho hp
        subst ho hp
        have r33 : aa.eval (.tmp 33) = dv (hmac zs ys) := hdep ⟨0, .data⟩ (by simp) rfl (33, dv (hmac zs ys)) rfl
        rw [Vals.eval_tmp] at r33
        have r36 : aa.eval (.tmp 36) = dv (hmac zs ys) := hdep ⟨3, .data⟩ (by simp) rfl (36, dv (hmac zs ys)) rfl
        rw [Vals.eval_tmp] at r36
        have heq := fun W => eql_hmac W zs ys
        have hgd := fun W x y => guard_dv W x y ((hmac zs ys).map (Value.int .u8)).toArray ((hmac zs ys).map (Value.int .u8)).toArray
        refine Vals.wpOp_run ho' rfl ?_
        clear hdf hdep hfr ho'
        go_simp
        exact hK _ hI
      | 5, ho, hp =>
        have ho' := ho
        simp only [List.getElem?_toArray, List.getElem?_cons_zero, List.getElem?_cons_succ, Option.some.injEq] at ho hp
        subst ho hp
        have r37 : aa.eval (.tmp 37) = .bool true := hdep ⟨4, .data⟩ (by simp) rfl (37, .bool true) rfl
        rw [Vals.eval_tmp] at r37
        refine Vals.wpOp_run ho' rfl ?_
        clear hdf hdep hfr ho'
        go_simp
        exact hK _ hI
      | 6, ho, hp =>
        have ho' := ho
        simp only [List.getElem?_toArray, List.getElem?_cons_zero, List.getElem?_cons_succ, Option.some.injEq] at ho hp
        subst ho hp
        have hg : aa.eval (.tmp 38) = .bool true := hdep ⟨5, .guard⟩ (by simp) rfl (38, .bool true) rfl
        have r8 : aa.eval (.tmp 8) = .pointer (some ⟨w3.heap.size, 0, none⟩) := hfr 8 (by decide)
        rw [Vals.eval_tmp] at r8
        refine Vals.wpOp_run ho' (by unfold Region.wanted; simp only []; rw [Vals.yielded_of (d := 38) rfl hg]; rfl) ?_
        clear hdf hdep hfr ho' hg
        refine wp_load_mid 25 (.tmp 8) rfl w3.heap.size 0 (by rw [Vals.eval_tmp]; exact r8) ((hmac os ys).map (Value.int .u8)) (.array 32 5) hI.2.2.1.range (by kernel_rfl) rfl (by rw [List.length_map, hmac_len]; exact infoA) ?_
        exact hK _ hI
      | 7, ho, hp =>
        have ho' := ho
        simp only [List.getElem?_toArray, List.getElem?_cons_zero, List.getElem?_cons_succ, Option.some.injEq] at ho hp
        subst ho hp
        have hg : aa.eval (.tmp 38) = .bool true := hdep ⟨5, .guard⟩ (by simp) rfl (38, .bool true) rfl
        have r2 : aa.eval (.tmp 2) = .slice c len3 cap3 := hfr 2 (by decide)
        rw [Vals.eval_tmp] at r2
        refine Vals.wpOp_run ho' (by unfold Region.wanted; simp only []; rw [Vals.yielded_of (d := 38) rfl hg]; rfl) ?_
        clear hdf hdep hfr ho' hg
        go_simp
        exact hK _ hI
      | 8, ho, hp =>
        have ho' := ho
        simp only [List.getElem?_toArray, List.getElem?_cons_zero, List.getElem?_cons_succ, Option.some.injEq] at ho hp
        subst ho hp
        have hg : aa.eval (.tmp 38) = .bool true := hdep ⟨5, .guard⟩ (by simp) rfl (38, .bool true) rfl
        have r1 : aa.eval (.tmp 1) = .slice b len2 cap2 := hfr 1 (by decide)
        rw [Vals.eval_tmp] at r1
        refine Vals.wpOp_run ho' (by unfold Region.wanted; simp only []; rw [Vals.yielded_of (d := 38) rfl hg]; rfl) ?_
        clear hdf hdep hfr ho' hg
        go_simp
        exact hK _ hI
      | 9, ho, hp =>
        have ho' := ho
        simp only [List.getElem?_toArray, List.getElem?_cons_zero, List.getElem?_cons_succ, Option.some.injEq] at ho hp
        subst ho hp
        have hg : aa.eval (.tmp 38) = .bool true := hdep ⟨5, .guard⟩ (by simp) rfl (38, .bool true) rfl
        have r40 : aa.eval (.tmp 40) = .slice c len3 cap3 := hdep ⟨7, .data⟩ (by simp) rfl (40, .slice c len3 cap3) rfl
        rw [Vals.eval_tmp] at r40
        have r41 : aa.eval (.tmp 41) = .slice b len2 cap2 := hdep ⟨8, .data⟩ (by simp) rfl (41, .slice b len2 cap2) rfl
        rw [Vals.eval_tmp] at r41
        refine Vals.wpOp_run ho' (by unfold Region.wanted; simp only []; rw [Vals.yielded_of (d := 38) rfl hg]; rfl) ?_
        clear hdf hdep hfr ho' hg
        go_simp
        refine (msum_any c len3 cap3 os b len2 cap2 ys _ (HR3.out.1.below hI.1) HR3.out.2.1 (by omega) HR3.out.2.2.1 (HR2.out.1.below hI.1) HR2.out.2.1 (by omega) HR2.out.2.2.1 (HT.out.below hI.1 HT.out.lt)).mono ?_
        rintro e w' ⟨rfl, hb⟩
        exact hK _ (once_keep hI hb)
      | 10, ho, hp =>
        have ho' := ho
        simp only [List.getElem?_toArray, List.getElem?_cons_zero, List.getElem?_cons_succ, Option.some.injEq] at ho hp
        subst ho hp
        have hg : aa.eval (.tmp 38) = .bool true := hdep ⟨5, .guard⟩ (by simp) rfl (38, .bool true) rfl
        have r39 : aa.eval (.tmp 39) = dv (hmac os ys) := hdep ⟨6, .data⟩ (by simp) rfl (39, dv (hmac os ys)) rfl
        rw [Vals.eval_tmp] at r39
        have r42 : aa.eval (.tmp 42) = dv (hmac os ys) := hdep ⟨9, .data⟩ (by simp) rfl (42, dv (hmac os ys)) rfl
        rw [Vals.eval_tmp] at r42
        have heq := fun W => eql_hmac W os ys
        have hgd := fun W x y => guard_dv W x y ((hmac os ys).map (Value.int .u8)).toArray ((hmac os ys).map (Value.int .u8)).toArray
        refine Vals.wpOp_run ho' (by unfold Region.wanted; simp only []; rw [Vals.yielded_of (d := 38) rfl hg]; rfl) ?_
        clear hdf hdep hfr ho' hg
        go_simp
        exact hK _ hI
      | 11, ho, hp =>
        have ho' := ho
        simp only [List.getElem?_toArray, List.getElem?_cons_zero, List.getElem?_cons_succ, Option.some.injEq] at ho hp
        subst ho hp
        have r38 : aa.eval (.tmp 38) = .bool true := hdep ⟨5, .data⟩ (by simp) rfl (38, .bool true) rfl
        rw [Vals.eval_tmp] at r38
        have r43 : aa.eval (.tmp 43) = .bool true := hdep ⟨10, .data⟩ (by simp) rfl (43, .bool true) rfl
        rw [Vals.eval_tmp] at r43
        refine Vals.wpOp_run ho' rfl ?_
        clear hdf hdep hfr ho'
        go_simp
        exact hK _ hI
      | 12, ho, hp =>
        have ho' := ho
        simp only [List.getElem?_toArray, List.getElem?_cons_zero, List.getElem?_cons_succ, Option.some.injEq] at ho hp
        subst ho hp
        have r44 : aa.eval (.tmp 44) = .bool true := hdep ⟨11, .data⟩ (by simp) rfl (44, .bool true) rfl
        rw [Vals.eval_tmp] at r44
        refine Vals.wpOp_run ho' rfl ?_
        clear hdf hdep hfr ho'
        go_simp
        exact hK _ hI
      | 13, ho, hp =>
        have ho' := ho
        simp only [List.getElem?_toArray, List.getElem?_cons_zero, List.getElem?_cons_succ, Option.some.injEq] at ho hp
        subst ho hp
        have hg : aa.eval (.tmp 45) = .bool true := hdep ⟨12, .guard⟩ (by simp) rfl (45, .bool true) rfl
        have r9 : aa.eval (.tmp 9) = .pointer (some ⟨w5.heap.size, 0, none⟩) := hfr 9 (by decide)
        rw [Vals.eval_tmp] at r9
        refine Vals.wpOp_run ho' (by unfold Region.wanted; simp only []; rw [Vals.yielded_of (d := 45) rfl hg]; rfl) ?_
        clear hdf hdep hfr ho' hg
        refine wp_load_mid 25 (.tmp 9) rfl w5.heap.size 0 (by rw [Vals.eval_tmp]; exact r9) ((hmac zs os).map (Value.int .u8)) (.array 32 5) hI.2.2.2.range (by kernel_rfl) rfl (by rw [List.length_map, hmac_len]; exact infoA) ?_
        exact hK _ hI
      | 14, ho, hp =>
        have ho' := ho
        simp only [List.getElem?_toArray, List.getElem?_cons_zero, List.getElem?_cons_succ, Option.some.injEq] at ho hp
        subst ho hp
        have hg : aa.eval (.tmp 45) = .bool true := hdep ⟨12, .guard⟩ (by simp) rfl (45, .bool true) rfl
        have r0 : aa.eval (.tmp 0) = .slice a len cap := hfr 0 (by decide)
        rw [Vals.eval_tmp] at r0
        refine Vals.wpOp_run ho' (by unfold Region.wanted; simp only []; rw [Vals.yielded_of (d := 45) rfl hg]; rfl) ?_
        clear hdf hdep hfr ho' hg
        go_simp
        exact hK _ hI
      | 15, ho, hp =>
        have ho' := ho
        simp only [List.getElem?_toArray, List.getElem?_cons_zero, List.getElem?_cons_succ, Option.some.injEq] at ho hp
        subst ho hp
        have hg : aa.eval (.tmp 45) = .bool true := hdep ⟨12, .guard⟩ (by simp) rfl (45, .bool true) rfl
        have r2 : aa.eval (.tmp 2) = .slice c len3 cap3 := hfr 2 (by decide)
        rw [Vals.eval_tmp] at r2
        refine Vals.wpOp_run ho' (by unfold Region.wanted; simp only []; rw [Vals.yielded_of (d := 45) rfl hg]; rfl) ?_
        clear hdf hdep hfr ho' hg
        go_simp
        exact hK _ hI
      | 16, ho, hp =>
        have ho' := ho
        simp only [List.getElem?_toArray, List.getElem?_cons_zero, List.getElem?_cons_succ, Option.some.injEq] at ho hp
        subst ho hp
        have hg : aa.eval (.tmp 45) = .bool true := hdep ⟨12, .guard⟩ (by simp) rfl (45, .bool true) rfl
        have r47 : aa.eval (.tmp 47) = .slice a len cap := hdep ⟨14, .data⟩ (by simp) rfl (47, .slice a len cap) rfl
        rw [Vals.eval_tmp] at r47
        have r48 : aa.eval (.tmp 48) = .slice c len3 cap3 := hdep ⟨15, .data⟩ (by simp) rfl (48, .slice c len3 cap3) rfl
        rw [Vals.eval_tmp] at r48
        refine Vals.wpOp_run ho' (by unfold Region.wanted; simp only []; rw [Vals.yielded_of (d := 45) rfl hg]; rfl) ?_
        clear hdf hdep hfr ho' hg
        go_simp
        refine (msum_any a len cap zs c len3 cap3 os _ (HR.out.1.below hI.1) HR.out.2.1 (by omega) HR.out.2.2.1 (HR3.out.1.below hI.1) HR3.out.2.1 (by omega) HR3.out.2.2.1 (HT.out.below hI.1 HT.out.lt)).mono ?_
        rintro e w' ⟨rfl, hb⟩
        exact hK _ (once_keep hI hb)
      | 17, ho, hp =>
        have ho' := ho
        simp only [List.getElem?_toArray, List.getElem?_cons_zero, List.getElem?_cons_succ, Option.some.injEq] at ho hp
        subst ho hp
        have hg : aa.eval (.tmp 45) = .bool true := hdep ⟨12, .guard⟩ (by simp) rfl (45, .bool true) rfl
        have r46 : aa.eval (.tmp 46) = dv (hmac zs os) := hdep ⟨13, .data⟩ (by simp) rfl (46, dv (hmac zs os)) rfl
        rw [Vals.eval_tmp] at r46
        have r49 : aa.eval (.tmp 49) = dv (hmac zs os) := hdep ⟨16, .data⟩ (by simp) rfl (49, dv (hmac zs os)) rfl
        rw [Vals.eval_tmp] at r49
        have heq := fun W => eql_hmac W zs os
        have hgd := fun W x y => guard_dv W x y ((hmac zs os).map (Value.int .u8)).toArray ((hmac zs os).map (Value.int .u8)).toArray
        refine Vals.wpOp_run ho' (by unfold Region.wanted; simp only []; rw [Vals.yielded_of (d := 45) rfl hg]; rfl) ?_
        clear hdf hdep hfr ho' hg
        go_simp
        exact hK _ hI
      | 18, ho, hp =>
        have ho' := ho
        simp only [List.getElem?_toArray, List.getElem?_cons_zero, List.getElem?_cons_succ, Option.some.injEq] at ho hp
        subst ho hp
        have r45 : aa.eval (.tmp 45) = .bool true := hdep ⟨12, .data⟩ (by simp) rfl (45, .bool true) rfl
        rw [Vals.eval_tmp] at r45
        have r50 : aa.eval (.tmp 50) = .bool true := hdep ⟨17, .data⟩ (by simp) rfl (50, .bool true) rfl
        rw [Vals.eval_tmp] at r50
        refine Vals.wpOp_run ho' rfl ?_
        clear hdf hdep hfr ho'
        go_simp
        exact hK _ hI
      | 19, ho, hp =>
        have ho' := ho
        simp only [List.getElem?_toArray, List.getElem?_cons_zero, List.getElem?_cons_succ, Option.some.injEq] at ho hp
        subst ho hp
        have r51 : aa.eval (.tmp 51) = .bool true := hdep ⟨18, .data⟩ (by simp) rfl (51, .bool true) rfl
        rw [Vals.eval_tmp] at r51
        refine Vals.wpOp_run ho' rfl ?_
        clear hdf hdep hfr ho'
        go_simp
        exact hK _ hI
      | 20, ho, hp =>
        have ho' := ho
        simp only [List.getElem?_toArray, List.getElem?_cons_zero, List.getElem?_cons_succ, Option.some.injEq] at ho hp
        subst ho hp
        have hg : aa.eval (.tmp 52) = .bool true := hdep ⟨19, .guard⟩ (by simp) rfl (52, .bool true) rfl
        refine Vals.wpOp_run ho' (by unfold Region.wanted; simp only []; rw [Vals.yielded_of (d := 52) rfl hg]; rfl) ?_
        clear hdf hdep hfr ho' hg
        go_simp
        refine (works_any _ (HT.out.below hI.1 HT.out.lt)).mono ?_
        rintro e w' ⟨rfl, hb⟩
        exact hK _ (once_keep hI hb)
      | 21, ho, hp =>
        have ho' := ho
        simp only [List.getElem?_toArray, List.getElem?_cons_zero, List.getElem?_cons_succ, Option.some.injEq] at ho hp
        subst ho hp
        have r52 : aa.eval (.tmp 52) = .bool true := hdep ⟨19, .data⟩ (by simp) rfl (52, .bool true) rfl
        rw [Vals.eval_tmp] at r52
        have r53 : aa.eval (.tmp 53) = .bool true := hdep ⟨20, .data⟩ (by simp) rfl (53, .bool true) rfl
        rw [Vals.eval_tmp] at r53
        refine Vals.wpOp_run ho' rfl ?_
        clear hdf hdep hfr ho'
        go_simp
        exact hK _ hI
      | 22, ho, hp =>
        have ho' := ho
        simp only [List.getElem?_toArray, List.getElem?_cons_zero, List.getElem?_cons_succ, Option.some.injEq] at ho hp
        subst ho hp
        have r54 : aa.eval (.tmp 54) = .bool true := hdep ⟨21, .data⟩ (by simp) rfl (54, .bool true) rfl
        rw [Vals.eval_tmp] at r54
        refine Vals.wpOp_run ho' rfl ?_
        clear hdf hdep hfr ho'
        go_simp
        exact hK _ hI
      | i + 23, ho, hp => simp at ho
  case fin =>
    intro W hI
    have HE := Lib.hid hI.1
    clear hI
    simp only [Vals.puts, List.foldl_cons, List.foldl_nil]
    go_frame
    go_wp2
    go_ret
    exact ⟨rfl, HE.out⟩
end Go.Proofs.YtlgcplopibblbaaDoor
