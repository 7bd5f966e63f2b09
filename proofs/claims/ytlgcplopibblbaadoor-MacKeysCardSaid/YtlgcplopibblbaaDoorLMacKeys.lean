/-
  The walk of MacKeys.
-/
import Derived.Test.YtlgcplopibblbaaDoorLMacSums
import Derived.Test.YtlgcplopibblbaaDoorVals
namespace Go.Proofs.YtlgcplopibblbaaDoor
open Go.RowKit
set_option linter.unusedVariables false

theorem mk_keep {w W W' : World} {g1 g3 : Nat} {A C : List Value} (h : Below w.heap.size w W ∧ Arr W g1 25 A ∧ Arr W g3 25 C) (hb : Below W.heap.size W W') : Below w.heap.size w W' ∧ Arr W' g1 25 A ∧ Arr W' g3 25 C :=
  ⟨h.1.trans (hb.mono h.1.size), h.2.1.below hb h.2.1.lt, h.2.2.below hb h.2.2.lt⟩
theorem mk_keep2 {w W W' : World} {g1 base : Nat} {A : List Value} {a : Option Addr} {n c : Nat} {zs : List Int} (h : Below w.heap.size w W ∧ Arr W g1 25 A ∧ Row8 base W a n c zs) (hb : Below W.heap.size W W') : Below w.heap.size w W' ∧ Arr W' g1 25 A ∧ Row8 base W' a n c zs :=
  ⟨h.1.trans (hb.mono h.1.size), h.2.1.below hb h.2.1.lt, h.2.2.keep hb⟩

set_option maxRecDepth 100000 in
set_option maxHeartbeats 6400000 in
theorem macKeys_walk (a : Option Addr) (len cap : Nat) (z : List Int) (b : Option Addr) (len2 cap2 : Nat) (z2 : List Int) (nn : Int) (w : World) (w0 : IsRow .u8 w a len cap z) (w1 : IsRow .u8 w b len2 cap2 z2) (w2 : (Lit.int .u8 nn).wf = true) (ht : Tab w) :
    Calls Tryd.prog 5 #[.slice a len cap, .slice b len2 cap2, .int .u8 nn] w fun e w' => e = .returned (.bool true) ∧ Below w.heap.size w w' := by
  obtain ⟨hr, hbyt, hcap, hmax⟩ := w0.reads
  obtain ⟨hr2, hbyt2, hcap2, hmax2⟩ := w1.reads
  obtain ⟨n0, n1⟩ := wf_u8_in w2
  obtain ⟨m, rfl⟩ : ∃ m : Nat, nn = (m : Int) := ⟨nn.toNat, by omega⟩
  clear w0 w1 w2
  generalize z.take len = zs at hr hbyt
  generalize z2.take len2 = ys at hr2 hbyt2
  have HT := Lib.hid ht
  have HR := Lib.hid (And.intro hr (And.intro hbyt (And.intro hcap hmax)))
  have HR2 := Lib.hid (And.intro hr2 (And.intro hbyt2 (And.intro hcap2 hmax2)))
  clear hr hbyt hr2 hbyt2 ht hcap hcap2
  unfold maxLen at hmax hmax2
  by_cases hlong : 4096 < len
  · have hg : (4096 : Int) < len := by omega
    go_enter Tryd.func5, Tryd.ntmps5
    go_wp2_with (go_at_call 8; refine (works_any _ HT.out).mono ?_; rintro e w' ⟨rfl, hb⟩)
    go_ret
    exact ⟨rfl, hb⟩
  by_cases hlong2 : 4096 < len2
  · have hg : ¬ (4096 : Int) < len := by omega
    have hg2 : (4096 : Int) < len2 := by omega
    go_enter Tryd.func5, Tryd.ntmps5
    go_wp2_with (go_at_call 8; refine (works_any _ HT.out).mono ?_; rintro e w' ⟨rfl, hb⟩)
    go_ret
    exact ⟨rfl, hb⟩
  have hg : ¬ (4096 : Int) < len := by omega
  have hg2 : ¬ (4096 : Int) < len2 := by omega
  have hs := msum_any a len cap zs b len2 cap2 ys w HR.out.1 HR.out.2.1 (by omega) HR.out.2.2.1 HR2.out.1 HR2.out.2.1 (by omega) HR2.out.2.2.1 HT.out
  obtain ⟨R, hR⟩ : ∃ R, R = (hmac zs ys).map (Value.int .u8) := ⟨_, rfl⟩
  have hrl : R.length = 32 := by rw [hR, List.length_map, hmac_len]
  have infoR : (Tryd.prog.info? 25).map (·.size) = some R.length := by rw [hrl]; exact infoA
  have honer : R.toArray.all (·.oneCell') = true := by rw [hR]; exact dv_one _
  rw [show dv (hmac zs ys) = .agg R.toArray by rw [hR]] at hs
  have HS := Lib.hid hs
  have HRR := Lib.hid (And.intro hR hrl)
  clear hs hR hrl
  by_cases h64 : 64 < len
  · have g64 : (64 : Int) < len := by omega
    go_enter Tryd.func5, Tryd.ntmps5
    go_wp2_with fail
    refine HS.out.mono ?_
    rintro e w1 ⟨rfl, hb1⟩
    obtain ⟨w2, hw2⟩ : ∃ w2, w1.alloc (.cells R.toArray 25) = w2 := ⟨_, rfl⟩
    have hb2 : Below w.heap.size w w2 := by rw [← hw2]; exact hb1.alloc hb1.size _
    have ha2 : Arr w2 w1.heap.size 25 R := by rw [← hw2]; exact arr_new w1 25 R
    have hs := sum_ok a len cap zs w2 (HR.out.1.below hb2) HR.out.2.1 (by omega) HR.out.2.2.1 (HT.out.below hb2 HT.out.lt)
    obtain ⟨D, hD⟩ : ∃ D, D = (sha zs).map (Value.int .u8) := ⟨_, rfl⟩
    have hdl : D.length = 32 := by rw [hD, List.length_map, sha_len]
    have infoD : (Tryd.prog.info? 25).map (·.size) = some D.length := by rw [hdl]; exact infoA
    have honed : D.toArray.all (·.oneCell') = true := by rw [hD]; exact dv_one _
    rw [show dv (sha zs) = .agg D.toArray by rw [hD]] at hs
    have H2 := Lib.hid (And.intro hb2 ha2)
    have HS2 := Lib.hid hs
    have HD := Lib.hid (And.intro hD hdl)
    have HW2 := Lib.hid hw2
    clear hb1 hb2 ha2 hs hD hdl hw2 HS
    go_wp2_with (refine wpList_store_fresh rfl 25 (.tmp 7) (.tmp 22) rfl w1 _ rfl _ R.toArray rfl rfl (by simpa using infoR) (by simp [HRR.out.2]) honer ?_; rw [HW2.out])
    refine HS2.out.mono ?_
    rintro e w3 ⟨rfl, hb3⟩
    obtain ⟨w4, hw4⟩ : ∃ w4, w3.alloc (.cells D.toArray 25) = w4 := ⟨_, rfl⟩
    have hb4 : Below w2.heap.size w2 w4 := by rw [← hw4]; exact hb3.alloc hb3.size _
    have H4 := Lib.hid (show Below w.heap.size w w4 ∧ Arr w4 w1.heap.size 25 ((hmac zs ys).map (Value.int .u8)) ∧ Arr w4 w3.heap.size 25 ((sha zs).map (Value.int .u8)) from
      ⟨H2.out.1.trans (hb4.mono H2.out.1.size), by rw [← HRR.out.1]; exact H2.out.2.below hb4 H2.out.2.lt, by rw [← hw4, ← HD.out.1]; exact arr_new w3 25 D⟩)
    have HW4 := Lib.hid hw4
    clear hb3 hb4 hw4 HS2 H2
    go_wp2_with (refine wpList_store_fresh rfl 25 (.tmp 8) (.tmp 27) rfl w3 _ rfl _ D.toArray rfl rfl (by simpa using infoD) (by simp [HD.out.2]) honed ?_; rw [HW4.out])
    refine wp_region_any (by kernel_rfl) ?_
    refine Vals.wpAny_vals [(28, dv (hmac zs ys)), (29, .slice (some ⟨w3.heap.size, 0, none⟩) 32 32), (30, .slice b len2 cap2), (31, dv (hmac zs ys)), (32, .bool true), (33, .bool true), (34, .bool true), (35, .bool true), (6, .bool true)] [28, 29, 30, 31, 32, 33, 34, 35, 6] 60 (fun W => Below w.heap.size w W ∧ Arr W w1.heap.size 25 ((hmac zs ys).map (Value.int .u8)) ∧ Arr W w3.heap.size 25 ((sha zs).map (Value.int .u8))) _ _ rfl (by kernel_rfl) rfl (by kernel_rfl) (by decide) ?step ?fin ⟨H4.out.1.drew, H4.out.2.1, H4.out.2.2⟩
    case step =>
      intro i o pp ho hp a W hI hdf hdep hfr K hK
      match i, ho, hp with
          | 0, ho, hp =>
            have ho' := ho
            simp only [List.getElem?_toArray, List.getElem?_cons_zero, Option.some.injEq] at ho hp
            subst ho hp
            have r7 : a.eval (.tmp 7) = .pointer (some ⟨w1.heap.size, 0, none⟩) := hfr 7 (by decide)
            rw [Vals.eval_tmp] at r7
            refine Vals.wpOp_run ho' rfl ?_
            clear hdf hdep hfr ho'
            refine wp_load_mid 25 (.tmp 7) rfl w1.heap.size 0 (by rw [Vals.eval_tmp]; exact r7) ((hmac zs ys).map (Value.int .u8)) (.array 32 5) hI.2.1.range (by kernel_rfl) rfl (by rw [List.length_map, hmac_len]; exact infoA) ?_
            exact hK _ hI
          | 1, ho, hp =>
            have ho' := ho
            simp only [List.getElem?_toArray, List.getElem?_cons_zero, List.getElem?_cons_succ, Option.some.injEq] at ho hp
            subst ho hp
            have r8 : a.eval (.tmp 8) = .pointer (some ⟨w3.heap.size, 0, none⟩) := hfr 8 (by decide)
            rw [Vals.eval_tmp] at r8
            refine Vals.wpOp_run ho' rfl ?_
            clear hdf hdep hfr ho'
            go_simp
            exact hK _ hI
          | 2, ho, hp =>
            have ho' := ho
            simp only [List.getElem?_toArray, List.getElem?_cons_zero, List.getElem?_cons_succ, Option.some.injEq] at ho hp
            subst ho hp
            have r1 : a.eval (.tmp 1) = .slice b len2 cap2 := hfr 1 (by decide)
            rw [Vals.eval_tmp] at r1
            refine Vals.wpOp_run ho' rfl ?_
            clear hdf hdep hfr ho'
            go_simp
            exact hK _ hI
          | 3, ho, hp =>
            have ho' := ho
            simp only [List.getElem?_toArray, List.getElem?_cons_zero, List.getElem?_cons_succ, Option.some.injEq] at ho hp
            subst ho hp
            have r29 : a.eval (.tmp 29) = .slice (some ⟨w3.heap.size, 0, none⟩) 32 32 := hdep ⟨1, .data⟩ (by simp) rfl (29, .slice (some ⟨w3.heap.size, 0, none⟩) 32 32) rfl
            rw [Vals.eval_tmp] at r29
            have r30 : a.eval (.tmp 30) = .slice b len2 cap2 := hdep ⟨2, .data⟩ (by simp) rfl (30, .slice b len2 cap2) rfl
            rw [Vals.eval_tmp] at r30
            refine Vals.wpOp_run ho' rfl ?_
            clear hdf hdep hfr ho'
            go_simp
            have hm := msum_any (some ⟨w3.heap.size, 0, none⟩) 32 32 (sha zs) b len2 cap2 ys _ (hI.2.2.reads' (sha_len _)) (sha_byt _) (by omega) (by omega) (HR2.out.1.below hI.1) HR2.out.2.1 (by omega) HR2.out.2.2.1 (HT.out.below hI.1 HT.out.lt)
            rw [hmac_sha (by rw [HR.out.1.1]; exact h64)] at hm
            refine hm.mono ?_
            rintro e w' ⟨rfl, hb⟩
            exact hK _ (mk_keep hI hb)
          | 4, ho, hp =>
            have ho' := ho
            simp only [List.getElem?_toArray, List.getElem?_cons_zero, List.getElem?_cons_succ, Option.some.injEq] at ho hp
            subst ho hp
            have r28 : a.eval (.tmp 28) = dv (hmac zs ys) := hdep ⟨0, .data⟩ (by simp) rfl (28, dv (hmac zs ys)) rfl
            rw [Vals.eval_tmp] at r28
            have r31 : a.eval (.tmp 31) = dv (hmac zs ys) := hdep ⟨3, .data⟩ (by simp) rfl (31, dv (hmac zs ys)) rfl
            rw [Vals.eval_tmp] at r31
            have heq := fun W => eql_hmac W zs ys
            have hgd := fun W x y => guard_dv W x y ((hmac zs ys).map (Value.int .u8)).toArray ((hmac zs ys).map (Value.int .u8)).toArray
            refine Vals.wpOp_run ho' rfl ?_
            clear hdf hdep hfr ho'
            go_simp
            exact hK _ hI
          | 5, ho, hp =>
            have ho' := ho
            simp only [List.getElem?_toArray, List.getElem?_cons_zero, List.getElem?_cons_succ, Option.some.injEq] at ho hp
            subst ho hp
            have r32 : a.eval (.tmp 32) = .bool true := hdep ⟨4, .data⟩ (by simp) rfl (32, .bool true) rfl
            rw [Vals.eval_tmp] at r32
            refine Vals.wpOp_run ho' rfl ?_
            clear hdf hdep hfr ho'
            go_simp
            exact hK _ hI
          | 6, ho, hp =>
            have ho' := ho
            simp only [List.getElem?_toArray, List.getElem?_cons_zero, List.getElem?_cons_succ, Option.some.injEq] at ho hp
            subst ho hp
            have hg : a.eval (.tmp 33) = .bool true := hdep ⟨5, .guard⟩ (by simp) rfl (33, .bool true) rfl
            refine Vals.wpOp_run ho' (by unfold Region.wanted; simp only []; rw [Vals.yielded_of (d := 33) rfl hg]; rfl) ?_
            clear hdf hdep hfr ho' hg
            go_simp
            refine (works_any _ (HT.out.below hI.1 HT.out.lt)).mono ?_
            rintro e w' ⟨rfl, hb⟩
            exact hK _ (mk_keep hI hb)
          | 7, ho, hp =>
            have ho' := ho
            simp only [List.getElem?_toArray, List.getElem?_cons_zero, List.getElem?_cons_succ, Option.some.injEq] at ho hp
            subst ho hp
            have r33 : a.eval (.tmp 33) = .bool true := hdep ⟨5, .data⟩ (by simp) rfl (33, .bool true) rfl
            rw [Vals.eval_tmp] at r33
            have r34 : a.eval (.tmp 34) = .bool true := hdep ⟨6, .data⟩ (by simp) rfl (34, .bool true) rfl
            rw [Vals.eval_tmp] at r34
            refine Vals.wpOp_run ho' rfl ?_
            clear hdf hdep hfr ho'
            go_simp
            exact hK _ hI
          | 8, ho, hp =>
            have ho' := ho
            simp only [List.getElem?_toArray, List.getElem?_cons_zero, List.getElem?_cons_succ, Option.some.injEq] at ho hp
            subst ho hp
            have r35 : a.eval (.tmp 35) = .bool true := hdep ⟨7, .data⟩ (by simp) rfl (35, .bool true) rfl
            rw [Vals.eval_tmp] at r35
            refine Vals.wpOp_run ho' rfl ?_
            clear hdf hdep hfr ho'
            go_simp
            exact hK _ hI
          | i + 9, ho, hp => simp at ho
    case fin =>
      intro W hI
      have HE := Lib.hid hI.1
      clear hI
      simp only [Vals.puts, List.foldl_cons, List.foldl_nil]
      go_frame
      go_wp2
      go_ret
      exact ⟨rfl, HE.out⟩
  · have g64 : ¬ (64 : Int) < len := by omega
    go_enter Tryd.func5, Tryd.ntmps5
    go_wp2_with fail
    refine HS.out.mono ?_
    rintro e w1 ⟨rfl, hb1⟩
    obtain ⟨w2, hw2⟩ : ∃ w2, w1.alloc (.cells R.toArray 25) = w2 := ⟨_, rfl⟩
    have hb2 : Below w.heap.size w w2 := by rw [← hw2]; exact hb1.alloc hb1.size _
    have ha2 : Arr w2 w1.heap.size 25 ((hmac zs ys).map (Value.int .u8)) := by rw [← hw2, ← HRR.out.1]; exact arr_new w1 25 R
    have hcp := copyBytes_any a len cap zs w2 (HR.out.1.below hb2) (by omega)
    have H2 := Lib.hid (And.intro hb2 ha2)
    have HCP := Lib.hid hcp
    have HW2 := Lib.hid hw2
    clear hb1 hb2 ha2 hcp hw2 HS
    go_wp2_with (refine wpList_store_fresh rfl 25 (.tmp 7) (.tmp 22) rfl w1 _ rfl _ R.toArray rfl rfl (by simpa using infoR) (by simp [HRR.out.2]) honer ?_; rw [HW2.out])
    refine HCP.out.mono ?_
    rintro e w3 ⟨a3, rfl, hb3, hr3⟩
    have H3 := Lib.hid (And.intro hb3 hr3)
    clear hb3 hr3 HCP
    go_wp2
    go_loopw [9, 10] (fun t i wr => ∃ (j : Nat) (a9 : Option Addr) (c9 : Nat), j ≤ m ∧ len + j ≤ 64 ∧ t = .slice a9 (len + j) c9 ∧ i = .int .i64 (j : Int) ∧ Row8 w2.heap.size wr a9 (len + j) c9 (zs ++ List.replicate j 0) ∧ Below w2.heap.size w2 wr) (fun t _ _ => 64 - lenV t)
    case atStart => exact ⟨0, a3, len, by omega, by omega, rfl, rfl, by simpa using H3.out.2, H3.out.1⟩
    case round =>
      obtain ⟨j, a9, c9, hjm, hj64, rfl, rfl, hrow, hb⟩ := hrel
      by_cases hgo : j < m ∧ len + j < 64
      · obtain ⟨q1, q2⟩ := hgo
        have g1 : (j : Int) < (m : Int) := by omega
        have g2 : ((len : Int) + (j : Int)) < 64 := by omega
        obtain ⟨a9', c9', W3, happ, H4⟩ := hrow.append hb.size (by omega) 0
        have HB := Lib.hid hb
        clear hrow hb
        go_wp2_with (at_builtin; refine wpList_append_run rfl _ _ _ rfl _ _ _ _ rfl rfl happ ?_)
        go_roundw
        case rel => exact ⟨j + 1, a9', c9', by omega, by omega, rfl, by go_num, by have := H4.out.1; rw [List.append_assoc, replicate_snoc] at this; exact this, HB.out.trans H4.out.2⟩
        case measure => simp [lenV]; omega
      · have HJ := Lib.hid hj64
        have hbw := H2.out.1.trans (hb.mono H2.out.1.size)
        have HX := Lib.hid (show Below w.heap.size w wr ∧ Arr wr w1.heap.size 25 ((hmac zs ys).map (Value.int .u8)) ∧ Row8 w2.heap.size wr a9 (len + j) c9 (zs ++ List.replicate j 0) from ⟨hbw, H2.out.2.below hb H2.out.2.lt, hrow⟩)
        clear hrow hb hbw
        have hstop : (j : Int) < (m : Int) → ¬ (((len + j : Nat) : Int) < 64) := by intro h1 h2; exact hgo ⟨by omega, by omega⟩
        by_cases q1 : (j : Int) < (m : Int)
        · have q2 := hstop q1
          clear hstop hgo
          go_wp2

          refine wp_region_any (by kernel_rfl) ?_
          refine Vals.wpAny_vals [(52, dv (hmac zs ys)), (53, .slice a9 (len + j) c9), (54, .slice b len2 cap2), (55, dv (hmac zs ys)), (56, .bool true), (57, .bool true), (58, .bool true), (59, .bool true), (6, .bool true)] [52, 53, 54, 55, 56, 57, 58, 59, 6] 60 (fun W => Below w.heap.size w W ∧ Arr W w1.heap.size 25 ((hmac zs ys).map (Value.int .u8)) ∧ Row8 w2.heap.size W a9 (len + j) c9 (zs ++ List.replicate j 0)) _ _ rfl (by kernel_rfl) rfl (by kernel_rfl) (by decide) ?step ?fin ⟨HX.out.1.drew, HX.out.2.1, HX.out.2.2⟩
          case step =>
            intro i o pp ho hp a W hI hdf hdep hfr K hK
            match i, ho, hp with
                | 0, ho, hp =>
                  have ho' := ho
                  simp only [List.getElem?_toArray, List.getElem?_cons_zero, Option.some.injEq] at ho hp
                  subst ho hp
                  have r7 : a.eval (.tmp 7) = .pointer (some ⟨w1.heap.size, 0, none⟩) := hfr 7 (by decide)
                  rw [Vals.eval_tmp] at r7
                  refine Vals.wpOp_run ho' rfl ?_
                  clear hdf hdep hfr ho'
                  refine wp_load_mid 25 (.tmp 7) rfl w1.heap.size 0 (by rw [Vals.eval_tmp]; exact r7) ((hmac zs ys).map (Value.int .u8)) (.array 32 5) hI.2.1.range (by kernel_rfl) rfl (by rw [List.length_map, hmac_len]; exact infoA) ?_
                  exact hK _ hI
                | 1, ho, hp =>
                  have ho' := ho
                  simp only [List.getElem?_toArray, List.getElem?_cons_zero, List.getElem?_cons_succ, Option.some.injEq] at ho hp
                  subst ho hp
                  have r9 : a.eval (.tmp 9) = .slice a9 (len + j) c9 := hfr 9 (by decide)
                  rw [Vals.eval_tmp] at r9
                  refine Vals.wpOp_run ho' rfl ?_
                  clear hdf hdep hfr ho'
                  go_simp
                  exact hK _ hI
                | 2, ho, hp =>
                  have ho' := ho
                  simp only [List.getElem?_toArray, List.getElem?_cons_zero, List.getElem?_cons_succ, Option.some.injEq] at ho hp
                  subst ho hp
                  have r1 : a.eval (.tmp 1) = .slice b len2 cap2 := hfr 1 (by decide)
                  rw [Vals.eval_tmp] at r1
                  refine Vals.wpOp_run ho' rfl ?_
                  clear hdf hdep hfr ho'
                  go_simp
                  exact hK _ hI
                | 3, ho, hp =>
                  have ho' := ho
                  simp only [List.getElem?_toArray, List.getElem?_cons_zero, List.getElem?_cons_succ, Option.some.injEq] at ho hp
                  subst ho hp
                  have r53 : a.eval (.tmp 53) = .slice a9 (len + j) c9 := hdep ⟨1, .data⟩ (by simp) rfl (53, .slice a9 (len + j) c9) rfl
                  rw [Vals.eval_tmp] at r53
                  have r54 : a.eval (.tmp 54) = .slice b len2 cap2 := hdep ⟨2, .data⟩ (by simp) rfl (54, .slice b len2 cap2) rfl
                  rw [Vals.eval_tmp] at r54
                  refine Vals.wpOp_run ho' rfl ?_
                  clear hdf hdep hfr ho'
                  go_simp
                  have hm := msum_any a9 (len + j) c9 (zs ++ List.replicate j 0) b len2 cap2 ys _ hI.2.2.reads (HR.out.2.1.append (Byt.rep (by omega) (by omega) _)) (by omega) hI.2.2.le (HR2.out.1.below hI.1) HR2.out.2.1 (by omega) HR2.out.2.2.1 (HT.out.below hI.1 HT.out.lt)
                  rw [hmac_pad (by rw [HR.out.1.1]; exact HJ.out)] at hm
                  refine hm.mono ?_
                  rintro e w' ⟨rfl, hb⟩
                  exact hK _ (mk_keep2 hI hb)
                | 4, ho, hp =>
                  have ho' := ho
                  simp only [List.getElem?_toArray, List.getElem?_cons_zero, List.getElem?_cons_succ, Option.some.injEq] at ho hp
                  subst ho hp
                  have r52 : a.eval (.tmp 52) = dv (hmac zs ys) := hdep ⟨0, .data⟩ (by simp) rfl (52, dv (hmac zs ys)) rfl
                  rw [Vals.eval_tmp] at r52
                  have r55 : a.eval (.tmp 55) = dv (hmac zs ys) := hdep ⟨3, .data⟩ (by simp) rfl (55, dv (hmac zs ys)) rfl
                  rw [Vals.eval_tmp] at r55
                  have heq := fun W => eql_hmac W zs ys
                  have hgd := fun W x y => guard_dv W x y ((hmac zs ys).map (Value.int .u8)).toArray ((hmac zs ys).map (Value.int .u8)).toArray
                  refine Vals.wpOp_run ho' rfl ?_
                  clear hdf hdep hfr ho'
                  go_simp
                  exact hK _ hI
                | 5, ho, hp =>
                  have ho' := ho
                  simp only [List.getElem?_toArray, List.getElem?_cons_zero, List.getElem?_cons_succ, Option.some.injEq] at ho hp
                  subst ho hp
                  have r56 : a.eval (.tmp 56) = .bool true := hdep ⟨4, .data⟩ (by simp) rfl (56, .bool true) rfl
                  rw [Vals.eval_tmp] at r56
                  refine Vals.wpOp_run ho' rfl ?_
                  clear hdf hdep hfr ho'
                  go_simp
                  exact hK _ hI
                | 6, ho, hp =>
                  have ho' := ho
                  simp only [List.getElem?_toArray, List.getElem?_cons_zero, List.getElem?_cons_succ, Option.some.injEq] at ho hp
                  subst ho hp
                  have hg : a.eval (.tmp 57) = .bool true := hdep ⟨5, .guard⟩ (by simp) rfl (57, .bool true) rfl
                  refine Vals.wpOp_run ho' (by unfold Region.wanted; simp only []; rw [Vals.yielded_of (d := 57) rfl hg]; rfl) ?_
                  clear hdf hdep hfr ho' hg
                  go_simp
                  refine (works_any _ (HT.out.below hI.1 HT.out.lt)).mono ?_
                  rintro e w' ⟨rfl, hb⟩
                  exact hK _ (mk_keep2 hI hb)
                | 7, ho, hp =>
                  have ho' := ho
                  simp only [List.getElem?_toArray, List.getElem?_cons_zero, List.getElem?_cons_succ, Option.some.injEq] at ho hp
                  subst ho hp
                  have r57 : a.eval (.tmp 57) = .bool true := hdep ⟨5, .data⟩ (by simp) rfl (57, .bool true) rfl
                  rw [Vals.eval_tmp] at r57
                  have r58 : a.eval (.tmp 58) = .bool true := hdep ⟨6, .data⟩ (by simp) rfl (58, .bool true) rfl
                  rw [Vals.eval_tmp] at r58
                  refine Vals.wpOp_run ho' rfl ?_
                  clear hdf hdep hfr ho'
                  go_simp
                  exact hK _ hI
                | 8, ho, hp =>
                  have ho' := ho
                  simp only [List.getElem?_toArray, List.getElem?_cons_zero, List.getElem?_cons_succ, Option.some.injEq] at ho hp
                  subst ho hp
                  have r59 : a.eval (.tmp 59) = .bool true := hdep ⟨7, .data⟩ (by simp) rfl (59, .bool true) rfl
                  rw [Vals.eval_tmp] at r59
                  refine Vals.wpOp_run ho' rfl ?_
                  clear hdf hdep hfr ho'
                  go_simp
                  exact hK _ hI
                | i + 9, ho, hp => simp at ho
          case fin =>
            intro W hI
            have HE := Lib.hid hI.1
            clear hI
            simp only [Vals.puts, List.foldl_cons, List.foldl_nil]
            go_frame
            go_wp2
            go_ret
            exact ⟨rfl, HE.out⟩
        · clear hstop hgo
          go_wp2

          refine wp_region_any (by kernel_rfl) ?_
          refine Vals.wpAny_vals [(52, dv (hmac zs ys)), (53, .slice a9 (len + j) c9), (54, .slice b len2 cap2), (55, dv (hmac zs ys)), (56, .bool true), (57, .bool true), (58, .bool true), (59, .bool true), (6, .bool true)] [52, 53, 54, 55, 56, 57, 58, 59, 6] 60 (fun W => Below w.heap.size w W ∧ Arr W w1.heap.size 25 ((hmac zs ys).map (Value.int .u8)) ∧ Row8 w2.heap.size W a9 (len + j) c9 (zs ++ List.replicate j 0)) _ _ rfl (by kernel_rfl) rfl (by kernel_rfl) (by decide) ?step ?fin ⟨HX.out.1.drew, HX.out.2.1, HX.out.2.2⟩
          case step =>
            intro i o pp ho hp a W hI hdf hdep hfr K hK
            match i, ho, hp with
                | 0, ho, hp =>
                  have ho' := ho
                  simp only [List.getElem?_toArray, List.getElem?_cons_zero, Option.some.injEq] at ho hp
                  subst ho hp
                  have r7 : a.eval (.tmp 7) = .pointer (some ⟨w1.heap.size, 0, none⟩) := hfr 7 (by decide)
                  rw [Vals.eval_tmp] at r7
                  refine Vals.wpOp_run ho' rfl ?_
                  clear hdf hdep hfr ho'
                  refine wp_load_mid 25 (.tmp 7) rfl w1.heap.size 0 (by rw [Vals.eval_tmp]; exact r7) ((hmac zs ys).map (Value.int .u8)) (.array 32 5) hI.2.1.range (by kernel_rfl) rfl (by rw [List.length_map, hmac_len]; exact infoA) ?_
                  exact hK _ hI
                | 1, ho, hp =>
                  have ho' := ho
                  simp only [List.getElem?_toArray, List.getElem?_cons_zero, List.getElem?_cons_succ, Option.some.injEq] at ho hp
                  subst ho hp
                  have r9 : a.eval (.tmp 9) = .slice a9 (len + j) c9 := hfr 9 (by decide)
                  rw [Vals.eval_tmp] at r9
                  refine Vals.wpOp_run ho' rfl ?_
                  clear hdf hdep hfr ho'
                  go_simp
                  exact hK _ hI
                | 2, ho, hp =>
                  have ho' := ho
                  simp only [List.getElem?_toArray, List.getElem?_cons_zero, List.getElem?_cons_succ, Option.some.injEq] at ho hp
                  subst ho hp
                  have r1 : a.eval (.tmp 1) = .slice b len2 cap2 := hfr 1 (by decide)
                  rw [Vals.eval_tmp] at r1
                  refine Vals.wpOp_run ho' rfl ?_
                  clear hdf hdep hfr ho'
                  go_simp
                  exact hK _ hI
                | 3, ho, hp =>
                  have ho' := ho
                  simp only [List.getElem?_toArray, List.getElem?_cons_zero, List.getElem?_cons_succ, Option.some.injEq] at ho hp
                  subst ho hp
                  have r53 : a.eval (.tmp 53) = .slice a9 (len + j) c9 := hdep ⟨1, .data⟩ (by simp) rfl (53, .slice a9 (len + j) c9) rfl
                  rw [Vals.eval_tmp] at r53
                  have r54 : a.eval (.tmp 54) = .slice b len2 cap2 := hdep ⟨2, .data⟩ (by simp) rfl (54, .slice b len2 cap2) rfl
                  rw [Vals.eval_tmp] at r54
                  refine Vals.wpOp_run ho' rfl ?_
                  clear hdf hdep hfr ho'
                  go_simp
                  have hm := msum_any a9 (len + j) c9 (zs ++ List.replicate j 0) b len2 cap2 ys _ hI.2.2.reads (HR.out.2.1.append (Byt.rep (by omega) (by omega) _)) (by omega) hI.2.2.le (HR2.out.1.below hI.1) HR2.out.2.1 (by omega) HR2.out.2.2.1 (HT.out.below hI.1 HT.out.lt)
                  rw [hmac_pad (by rw [HR.out.1.1]; exact HJ.out)] at hm
                  refine hm.mono ?_
                  rintro e w' ⟨rfl, hb⟩
                  exact hK _ (mk_keep2 hI hb)
                | 4, ho, hp =>
                  have ho' := ho
                  simp only [List.getElem?_toArray, List.getElem?_cons_zero, List.getElem?_cons_succ, Option.some.injEq] at ho hp
                  subst ho hp
                  have r52 : a.eval (.tmp 52) = dv (hmac zs ys) := hdep ⟨0, .data⟩ (by simp) rfl (52, dv (hmac zs ys)) rfl
                  rw [Vals.eval_tmp] at r52
                  have r55 : a.eval (.tmp 55) = dv (hmac zs ys) := hdep ⟨3, .data⟩ (by simp) rfl (55, dv (hmac zs ys)) rfl
                  rw [Vals.eval_tmp] at r55
                  have heq := fun W => eql_hmac W zs ys
                  have hgd := fun W x y => guard_dv W x y ((hmac zs ys).map (Value.int .u8)).toArray ((hmac zs ys).map (Value.int .u8)).toArray
                  refine Vals.wpOp_run ho' rfl ?_
                  clear hdf hdep hfr ho'
                  go_simp
                  exact hK _ hI
                | 5, ho, hp =>
                  have ho' := ho
                  simp only [List.getElem?_toArray, List.getElem?_cons_zero, List.getElem?_cons_succ, Option.some.injEq] at ho hp
                  subst ho hp
                  have r56 : a.eval (.tmp 56) = .bool true := hdep ⟨4, .data⟩ (by simp) rfl (56, .bool true) rfl
                  rw [Vals.eval_tmp] at r56
                  refine Vals.wpOp_run ho' rfl ?_
                  clear hdf hdep hfr ho'
                  go_simp
                  exact hK _ hI
                | 6, ho, hp =>
                  have ho' := ho
                  simp only [List.getElem?_toArray, List.getElem?_cons_zero, List.getElem?_cons_succ, Option.some.injEq] at ho hp
                  subst ho hp
                  have hg : a.eval (.tmp 57) = .bool true := hdep ⟨5, .guard⟩ (by simp) rfl (57, .bool true) rfl
                  refine Vals.wpOp_run ho' (by unfold Region.wanted; simp only []; rw [Vals.yielded_of (d := 57) rfl hg]; rfl) ?_
                  clear hdf hdep hfr ho' hg
                  go_simp
                  refine (works_any _ (HT.out.below hI.1 HT.out.lt)).mono ?_
                  rintro e w' ⟨rfl, hb⟩
                  exact hK _ (mk_keep2 hI hb)
                | 7, ho, hp =>
                  have ho' := ho
                  simp only [List.getElem?_toArray, List.getElem?_cons_zero, List.getElem?_cons_succ, Option.some.injEq] at ho hp
                  subst ho hp
                  have r57 : a.eval (.tmp 57) = .bool true := hdep ⟨5, .data⟩ (by simp) rfl (57, .bool true) rfl
                  rw [Vals.eval_tmp] at r57
                  have r58 : a.eval (.tmp 58) = .bool true := hdep ⟨6, .data⟩ (by simp) rfl (58, .bool true) rfl
                  rw [Vals.eval_tmp] at r58
                  refine Vals.wpOp_run ho' rfl ?_
                  clear hdf hdep hfr ho'
                  go_simp
                  exact hK _ hI
                | 8, ho, hp =>
                  have ho' := ho
                  simp only [List.getElem?_toArray, List.getElem?_cons_zero, List.getElem?_cons_succ, Option.some.injEq] at ho hp
                  subst ho hp
                  have r59 : a.eval (.tmp 59) = .bool true := hdep ⟨7, .data⟩ (by simp) rfl (59, .bool true) rfl
                  rw [Vals.eval_tmp] at r59
                  refine Vals.wpOp_run ho' rfl ?_
                  clear hdf hdep hfr ho'
                  go_simp
                  exact hK _ hI
                | i + 9, ho, hp => simp at ho
          case fin =>
            intro W hI
            have HE := Lib.hid hI.1
            clear hI
            simp only [Vals.puts, List.foldl_cons, List.foldl_nil]
            go_frame
            go_wp2
            go_ret
            exact ⟨rfl, HE.out⟩
end Go.Proofs.YtlgcplopibblbaaDoor
