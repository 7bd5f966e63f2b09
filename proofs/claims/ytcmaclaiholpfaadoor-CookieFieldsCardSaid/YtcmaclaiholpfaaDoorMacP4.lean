/-
  The program's mac: Sum.
-/
import Derived.Test.YtcmaclaiholpfaaDoorMacP3
import Derived.Test.YtcmaclaiholpfaaDoorMgA
namespace Go.Proofs.YtcmaclaiholpfaaDoor
open Go.RowKit
set_option linter.unusedVariables false

/-- What the last region of Sum leans on, and whether its result lies there. -/
structure Reg (w : World) (g g2 : Nat) (B D R : List Value) (listed : Array Bool) (W : World) : Prop where
  b : Below w.heap.size w W
  g : Arr W g 58 B
  d : Arr W g2 46 D
  r : W.there w.heap.size 0 32
  l : w.heap.size < W.heap.size
  e : listed.getD 4 false = true → W.rangeAt w.heap.size 0 R
section
variable {w W W' : World} {g g2 : Nat} {B D R : List Value} {listed : Array Bool}
theorem there_below {b o n : Nat} (h : W.there b o n) (hb : Below W.heap.size W W') (hl : b < W.heap.size) : W'.there b o n := fun j hj => by
  have := h j hj
  rw [hb.cell (p := ⟨b, o + j, none⟩) hl, World.frozen?_of_block (a := ⟨b, o + j, none⟩) (hb.block b hl)]
  exact this
theorem range_below {b o : Nat} {cs : List Value} (h : W.rangeAt b o cs) (hb : Below W.heap.size W W') (hl : b < W.heap.size) : W'.rangeAt b o cs := fun j v hv => by
  rw [hb.cell (p := ⟨b, o + j, none⟩) hl]
  exact h j v hv
theorem Reg.drew (h : Reg w g g2 B D R listed W) : Reg w g g2 B D R listed W.drew := ⟨h.b.drew, h.g, h.d, h.r, h.l, h.e⟩
theorem Reg.keep (h : Reg w g g2 B D R listed W) (hb : Below W.heap.size W W') {i : Nat} (hi : i ≠ 4) : Reg w g g2 B D R (listed.setIfInBounds i true) W' :=
  ⟨h.b.trans (hb.mono h.b.size), h.g.below hb h.g.lt, h.d.below hb h.d.lt, there_below h.r hb h.l, Nat.lt_of_lt_of_le h.l hb.size, fun he => by
    rw [Vals.getD_set_other hi] at he
    exact range_below (h.e he) hb h.l⟩
theorem Reg.store (h : Reg w g g2 B D R listed W) (hR : R.length = 32) (hg : w.heap.size < g) (hg2 : w.heap.size < g2) : Reg w g g2 B D R (listed.setIfInBounds 4 true) (W.setCells w.heap.size 0 R) :=
  ⟨below_setCells w.heap.size w.heap.size (Nat.le_refl _) R 0 w W h.b, h.g.other _ _ _ (by omega), h.d.other _ _ _ (by omega), World.there_setCells h.r _ _ _,
    Nat.lt_of_lt_of_le h.l (below_setCells w.heap.size w.heap.size (Nat.le_refl _) R 0 W W ⟨rfl, rfl, rfl, Nat.le_refl _, fun _ _ => rfl⟩).size, fun _ => World.rangeAt_setCells_same W _ _ R (by rw [hR]; exact h.r)⟩
end

set_option maxRecDepth 100000 in
set_option maxHeartbeats 3200000 in
theorem msum_any (a : Option Addr) (len cap : Nat) (zs : List Int) (b : Option Addr) (len2 cap2 : Nat) (ys : List Int) (w : World) (hr : Reads w a len zs) (hz : Byt zs) (hl : len ≤ 1099511627776) (hc : len ≤ cap)
    (hr2 : Reads w b len2 ys) (hy : Byt ys) (hl2 : len2 ≤ 549755813888) (hc2 : len2 ≤ cap2) (ht : Tab w) :
    Calls Tryd.prog 22 #[.slice a len cap, .slice b len2 cap2] w fun e w' => e = .returned (dv (hmac zs ys)) ∧ Below w.heap.size w w' := by
  obtain ⟨O, hO⟩ : ∃ O, O = List.replicate 32 (Value.int .u8 0) := ⟨_, rfl⟩
  obtain ⟨w0, hw0⟩ : ∃ w0, w0 = w.alloc (.cells O.toArray 46) := ⟨_, rfl⟩
  have hb0 : Below w.heap.size w w0 := by rw [hw0]; exact (Below.refl _ _).alloc (Nat.le_refl _) _
  have ho0 : Arr w0 w.heap.size 46 O := by rw [hw0]; exact arr_new w 46 O
  have hsz0 : w0.heap.size = w.heap.size + 1 := by rw [hw0]; simp
  obtain ⟨K, hK⟩ : ∃ K, K = blockK zs := ⟨_, rfl⟩
  have hkl : K.length = 64 := by rw [hK]; exact blockK_len _
  have hkb : Byt K := by rw [hK]; exact byt_blockK hz
  have hm := mmasker_any a len cap zs w0 (hr.below hb0) hz hl hc (ht.below hb0 ht.lt)
  rw [hw0] at hm
  have H0 := Lib.hid (And.intro hb0 (And.intro ho0 (And.intro hsz0 (And.intro hr2 (And.intro hy ht)))))
  have HK := Lib.hid (And.intro hK (And.intro hkl hkb))
  have HW := Lib.hid (And.intro hw0 hO)
  rw [hO] at hm
  have HM := Lib.hid hm
  clear hb0 ho0 hsz0 hK hkl hkb hw0 hO hm hr hz hr2 hy ht
  go_enter Tryd.func22, Tryd.ntmps22
  go_wp2_with fail
  refine HM.out.mono ?_
  rintro e w1 ⟨g, rfl, hg1, hg, hb1⟩
  rw [← HW.out.2, ← HW.out.1] at hg1 hb1
  rw [← HK.out.1] at hg
  have hb1w : Below w.heap.size w w1 := H0.out.1.trans (hb1.mono H0.out.1.size)
  have ho1 := H0.out.2.1.below hb1 H0.out.2.1.lt
  have hg0 : w.heap.size < g := by have := H0.out.2.2.1; omega
  have hmk := mmask_any w1 g K 54 hg HK.out.2.1
  have H1 := Lib.hid (And.intro hb1w (And.intro ho1 (And.intro hg (And.intro hb1 hg1))))
  have HMK := Lib.hid hmk
  clear hg1 hg hb1 hb1w ho1 hmk HM
  go_wp2_with fail
  refine HMK.out.mono ?_
  rintro e w2 ⟨rfl, hb2⟩
  have hb2w : Below w.heap.size w w2 := H1.out.1.trans (hb2.mono H1.out.1.size)
  have ho2 := H1.out.2.1.below hb2 H1.out.2.1.lt
  have hg2 := H1.out.2.2.1.below hb2 H1.out.2.2.1.lt
  have hr2 : Reads w2 b len2 ys := H0.out.2.2.2.1.below hb2w
  have hdg := mdigest_any (turned 54 K) (by rw [turned_len]; exact HK.out.2.1) (byt_turned (by omega) (by omega) HK.out.2.2) b len2 cap2 ys w2 hr2 H0.out.2.2.2.2.1 hl2 hc2 (H0.out.2.2.2.2.2.below hb2w H0.out.2.2.2.2.2.lt)
  obtain ⟨V1, hV1⟩ : ∃ V1, V1 = dv (turned 54 K) := ⟨_, rfl⟩
  obtain ⟨S1, hS1⟩ : ∃ S1, S1 = sha (turned 54 K ++ ys) := ⟨_, rfl⟩
  obtain ⟨D, hD⟩ : ∃ D, D = S1.map (Value.int .u8) := ⟨_, rfl⟩
  have hdl : D.length = 32 := by rw [hD, hS1, List.length_map, sha_len]
  have infoD : (Tryd.prog.info? 46).map (·.size) = some D.length := by rw [hdl]; exact info32
  have honed : D.toArray.all (·.oneCell') = true := by rw [hD]; exact dv_one _
  rw [← hV1, ← hS1, show dv S1 = .agg D.toArray by rw [hD]] at hdg
  rw [← hV1]
  have H2 := Lib.hid (And.intro hb2w (And.intro ho2 hg2))
  have HDG := Lib.hid hdg
  have HD := Lib.hid (And.intro hS1 (And.intro hD (And.intro hdl hV1)))
  clear hb2 hb2w ho2 hg2 hr2 hdg hV1 hS1 hD hdl HMK H1
  go_wp2_with fail
  refine HDG.out.mono ?_
  rintro e w3 ⟨rfl, hb3⟩
  obtain ⟨w4, hw4⟩ : ∃ w4, w4 = w3.alloc (.cells D.toArray 46) := ⟨_, rfl⟩
  obtain ⟨R, hR⟩ : ∃ R, R = (hmac zs ys).map (Value.int .u8) := ⟨_, rfl⟩
  have hrl : R.length = 32 := by rw [hR, List.length_map, hmac_len]
  have infoR : (Tryd.prog.info? 46).map (·.size) = some R.length := by rw [hrl]; exact info32
  have honer : R.toArray.all (·.oneCell') = true := by rw [hR]; exact dv_one _
  have hb4 : Below w2.heap.size w2 w4 := by rw [hw4]; exact hb3.alloc hb3.size _
  have hsz3 := hb3.size
  have hw3 : w.heap.size < w3.heap.size := Nat.lt_of_lt_of_le H2.out.2.1.lt hsz3
  have hreg : Reg w g w3.heap.size (K.map (Value.int .u8)) D R (Array.replicate 5 false) w4 := by
    have ho4 := H2.out.2.1.below hb4 H2.out.2.1.lt
    refine ⟨H2.out.1.trans (hb4.mono H2.out.1.size), H2.out.2.2.below hb4 H2.out.2.2.lt, by rw [hw4]; exact arr_new w3 46 D, there_of_arr ho4 (by rw [HW.out.2]; simp), ho4.lt, fun h => by simp at h⟩
  have H4 := Lib.hid (And.intro hreg (And.intro hw3 hrl))
  have HR := Lib.hid hR
  have HW4 := Lib.hid hw4
  clear hb3 hw4 hR hrl hb4 hsz3 hw3 hreg HDG H2
  go_wp2_with (refine wpList_store_fresh rfl 46 (.tmp 6) (.tmp 12) rfl w3 _ rfl _ D.toArray rfl rfl (by simpa using infoD) (by simp [HD.out.2.2.1]) honed ?_)
  rw [← HW4.out]
  refine wp_region_any (by kernel_rfl) ?_
  obtain ⟨F, hF⟩ : ∃ F, F = Value.func (.func 41) #[] #[.pointer (some ⟨g, 0, none⟩)] := ⟨_, rfl⟩
  have HF := Lib.hid hF
  obtain ⟨V2, hV2⟩ : ∃ V2, V2 = dv (turned 92 K) := ⟨_, rfl⟩
  have hd2 : ∀ W, Below w.heap.size w W → Arr W w3.heap.size 46 D → Calls Tryd.prog 34 #[V2, .slice (some ⟨w3.heap.size, 0, none⟩) 32 32] W fun e w' => e = .returned (.agg R.toArray) ∧ Below W.heap.size W w' := by
    intro W hb hd
    rw [HD.out.2.1] at hd
    have h1 : S1.length = 32 := by rw [HD.out.1]; exact sha_len _
    have h := mdigest_any (turned 92 K) (by rw [turned_len]; exact HK.out.2.1) (byt_turned (by omega) (by omega) HK.out.2.2) (some ⟨w3.heap.size, 0, none⟩) 32 32 S1 W (hd.reads h1) (by rw [HD.out.1]; exact sha_byt _) (by omega) (by omega) (H0.out.2.2.2.2.2.below hb H0.out.2.2.2.2.2.lt)
    rw [← hV2] at h
    refine h.mono ?_
    rintro e w' ⟨rfl, h2⟩
    refine ⟨?_, h2⟩
    rw [HR.out]
    unfold hmac
    rw [← HK.out.1, HD.out.1]
  have HV := Lib.hid (And.intro hV2 hd2)
  clear hF hV2 hd2
  refine Vals.wpAny_valsW [some (13, F), some (14, V2), some (15, (.slice (some ⟨w3.heap.size, 0, none⟩) 32 32)), some (16, .agg R.toArray), none] [some 13, some 14, some 15, some 16, none] 17 (fun l W => Reg w g w3.heap.size (K.map (Value.int .u8)) D R l W) _ _ rfl (by kernel_rfl) rfl (by kernel_rfl) (by decide) ?step ?fin (H4.out.1.drew)
  case step =>
    intro i o pp ho hp listed a W hls hI hdf hdep hfr K' hK
    match i, ho, hp with
      | 0, ho, hp =>
        have ho' := ho
        simp only [List.getElem?_toArray, List.getElem?_cons_zero, Option.some.injEq] at ho hp
        subst ho hp
        have r5 : a.eval (.tmp 5) = F := by rw [HF.out]; exact hfr 5 (by decide)
        rw [Vals.eval_tmp] at r5
        refine Vals.wpOp_run ho' rfl ?_
        clear hdf hdep hfr ho'
        go_simp
        exact hK _ (hI.keep (Below.refl _ _) (by omega))
      | 1, ho, hp =>
        have ho' := ho
        simp only [List.getElem?_toArray, List.getElem?_cons_zero, List.getElem?_cons_succ, Option.some.injEq] at ho hp
        subst ho hp
        have r13 : a.eval (.tmp 13) = F := (hdep ⟨0, .data⟩ (by simp) rfl).2 (13, F) rfl
        rw [Vals.eval_tmp] at r13
        refine Vals.wpOp_run ho' rfl ?_
        clear hdf hdep hfr ho'
        rw [HF.out] at r13
        go_simp
        refine (mmask_any _ g K 92 hI.g HK.out.2.1).mono ?_
        rintro e w' ⟨rfl, hb⟩
        rw [← HV.out.1]
        exact hK _ (hI.keep hb (by omega))
      | 2, ho, hp =>
        have ho' := ho
        simp only [List.getElem?_toArray, List.getElem?_cons_zero, List.getElem?_cons_succ, Option.some.injEq] at ho hp
        subst ho hp
        have r6 : a.eval (.tmp 6) = (.pointer (some ⟨w3.heap.size, 0, none⟩)) := hfr 6 (by decide)
        rw [Vals.eval_tmp] at r6
        refine Vals.wpOp_run ho' rfl ?_
        clear hdf hdep hfr ho'
        go_simp
        exact hK _ (hI.keep (Below.refl _ _) (by omega))
      | 3, ho, hp =>
        have ho' := ho
        simp only [List.getElem?_toArray, List.getElem?_cons_zero, List.getElem?_cons_succ, Option.some.injEq] at ho hp
        subst ho hp
        have r14 : a.eval (.tmp 14) = V2 := (hdep ⟨1, .data⟩ (by simp) rfl).2 (14, V2) rfl
        rw [Vals.eval_tmp] at r14
        have r15 : a.eval (.tmp 15) = (.slice (some ⟨w3.heap.size, 0, none⟩) 32 32) := (hdep ⟨2, .data⟩ (by simp) rfl).2 (15, (.slice (some ⟨w3.heap.size, 0, none⟩) 32 32)) rfl
        rw [Vals.eval_tmp] at r15
        refine Vals.wpOp_run ho' rfl ?_
        clear hdf hdep hfr ho'
        go_simp
        refine (HV.out.2 _ hI.b hI.d).mono ?_
        rintro e w' ⟨rfl, hb⟩
        exact hK _ (hI.keep hb (by omega))
      | 4, ho, hp =>
        have ho' := ho
        simp only [List.getElem?_toArray, List.getElem?_cons_zero, List.getElem?_cons_succ, Option.some.injEq] at ho hp
        subst ho hp
        have r4 : a.eval (.tmp 4) = .pointer (some ⟨w.heap.size, 0, none⟩) := hfr 4 (by decide)
        have r16 : a.eval (.tmp 16) = .agg R.toArray := (hdep ⟨3, .data⟩ (by simp) rfl).2 (16, .agg R.toArray) rfl
        refine Vals.wpOp_run ho' rfl ?_
        clear hdf hdep hfr ho'
        refine wp_store_mid 46 (.tmp 4) (.tmp 16) rfl w.heap.size 0 R.toArray r4 r16 (by simpa [H4.out.2.2] using hI.r) (by simpa using infoR) honer ?_
        exact hK _ (hI.store H4.out.2.2 hg0 H4.out.2.1)
      | i + 5, ho, hp => simp at ho
  case fin =>
    intro listed W hall hI
    have hrng := hI.e (hall 4 (by simp))
    have hbl := hI.b
    have HE := Lib.hid (And.intro hrng hbl)
    clear hall hI hrng hbl
    simp only [Vals.puts, List.filterMap_cons, List.filterMap_nil, id, List.foldl_cons, List.foldl_nil]
    go_frame
    go_wp2
    refine bodyPost_ret (v := .agg R.toArray) ?_ rfl ⟨by rw [HR.out], HE.out.2⟩
    rw [results_one rfl]
    show Result.andThen ((asAddr (.pointer (some ⟨w.heap.size, 0, none⟩))).run Tryd.prog _) _ = _
    simp only [asAddr, Sem.run_pure, Result.andThen_ok]
    exact run_loadVar_mid _ w.heap.size 0 46 R (.array 32 5) HE.out.1 (by kernel_rfl) rfl infoR
end Go.Proofs.YtcmaclaiholpfaaDoor
