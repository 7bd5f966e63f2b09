/-
  The program's cookie: Derive. Written by genkp4.py.
-/
import Derived.Test.YtcmaclaiholpfaaDoorKP1
import Derived.Test.YtcmaclaiholpfaaDoorKApi
import Derived.Test.YtcmaclaiholpfaaDoorMacP4
import Derived.Test.YtcmaclaiholpfaaDoorMgA
import Derived.Lib.MinMax
namespace Go.Proofs.YtcmaclaiholpfaaDoor
open Go.RowKit
set_option linter.unusedVariables false
set_option linter.unusedSimpArgs false

/-- What the operations of the drawn region leave behind. -/
def KDq (wE : World) (g : Nat) (x y : Int) (i : Nat) (v : Value) (W : World) : Prop := match i with | 0 => v = .slice (some ⟨g, 0, none⟩) 32 32 | 1 => v = .int .u64 x | 2 => v = .int .u32 x | 3 => v = .int .u32 (max x 1) | 4 => v = .slice (some ⟨g, 0, none⟩) 32 32 | 5 => v = .int .u64 y | 6 => v = .int .u32 y | 7 => v = .int .u32 (max x 1) | 8 => v = .int .u32 y | _ => True
theorem KDq_mono {wE : World} {g : Nat} {x y : Int} {W W' : World} (hb : Below W.heap.size W W') (jo : Nat) (xo : Value) (h : KDq wE g x y jo xo W) : KDq wE g x y jo xo W' := by
  unfold KDq at h ⊢
  split at h <;> try exact h
theorem KDq_any {wE : World} {g : Nat} {x y : Int} {W W' : World} (jo : Nat) (xo : Value) (h : KDq wE g x y jo xo W) : KDq wE g x y jo xo W' := by
  unfold KDq at h ⊢
  split at h <;> exact h

set_option maxRecDepth 10000 in
set_option maxHeartbeats 3200000 in
theorem kderive_ok : KDeriveOk := by
  intro a len cap zs b len2 cap2 ys w hr hz hl hc hr2 hy hl2 hc2 ht
  have hs := msum_any a len cap zs b len2 cap2 ys w hr hz (by omega) hc hr2 hy (by omega) hc2 ht
  obtain ⟨H, hH⟩ : ∃ H, H = hmac zs ys := ⟨_, rfl⟩
  have hhb : Byt H := by rw [hH]; exact hmac_byt _ _
  have hhl : H.length = 32 := by rw [hH, hmac_len]
  obtain ⟨D, hD⟩ : ∃ D, D = H.map (Value.int .u8) := ⟨_, rfl⟩
  have hdl : D.length = 32 := by rw [hD, List.length_map, hhl]
  have infoD : (Tryd.prog.info? 46).map (·.size) = some D.length := by rw [hdl]; exact infoA
  have honed : D.toArray.all (·.oneCell') = true := by rw [hD]; exact dv_one _
  unfold dv at hs
  rw [← hH, ← hD] at hs
  obtain ⟨x, hx⟩ : ∃ x, x = num ((H.drop 0).take 4) := ⟨_, rfl⟩
  obtain ⟨y, hy'⟩ : ∃ y, y = num ((H.drop 4).take 4) := ⟨_, rfl⟩
  obtain ⟨lox, hix⟩ : 0 ≤ x ∧ x < 4294967296 := by rw [hx]; exact num4 hhb 0
  obtain ⟨loy, hiy⟩ : 0 ≤ y ∧ y < 4294967296 := by rw [hy']; exact num4 hhb 4
  have e1 : deriveK zs ys = (max x 1, y) := by
    have e2 : max x 1 = if x = 0 then 1 else x := by split <;> omega
    unfold deriveK
    rw [e2, hx, hy', hH, List.drop_zero]
  rw [e1]
  have HS := Lib.hid hs
  have H0 := Lib.hid (And.intro hD (And.intro hdl (And.intro hhb (And.intro hhl (And.intro hx hy')))))
  clear hs hr hz hl hc hr2 hy hl2 hc2 ht hH hhb hhl hD hdl hx hy' e1
  go_enter Tryd.func18, Tryd.ntmps18
  go_wp2_with fail
  refine HS.out.mono ?_
  rintro e w1 ⟨rfl, hb1⟩
  obtain ⟨wE, hwE⟩ : ∃ wE, wE = w1.alloc (.cells D.toArray 46) := ⟨_, rfl⟩
  have hb12 : Below w1.heap.size w1 wE := by rw [hwE]; exact (Below.refl _ _).alloc (Nat.le_refl _) _
  have hd2 : Arr wE w1.heap.size 46 (H.map (Value.int .u8)) := by rw [hwE, ← H0.out.1]; exact arr_new w1 46 D
  have hb2 := hb1.trans (hb12.mono hb1.size)
  obtain ⟨g, hg⟩ : ∃ g, g = w1.heap.size := ⟨_, rfl⟩
  rw [← hg] at hd2
  have hrd := hd2.reads' H0.out.2.2.2.1
  have hn0 := fun W (hJ : Below wE.heap.size wE W) => pnum_any (some ⟨g, 0, none⟩) 32 32 0 4 H W (hrd.below hJ) H0.out.2.2.1 (by omega) rfl (by omega)
  have hn4 := fun W (hJ : Below wE.heap.size wE W) => pnum_any (some ⟨g, 0, none⟩) 32 32 4 4 H W (hrd.below hJ) H0.out.2.2.1 (by omega) rfl (by omega)
  rw [← H0.out.2.2.2.2.1] at hn0
  rw [← H0.out.2.2.2.2.2] at hn4
  have HN0 := Lib.hid hn0
  have HN4 := Lib.hid hn4
  have H2 := Lib.hid hb2
  clear hb1 hb12 hd2 hb2 hrd hn0 hn4 HS
  go_upto_region 2 with (refine wpList_store_fresh rfl 46 (.tmp 6) (.tmp 9) rfl w1 _ rfl _ D.toArray rfl rfl (by simpa using infoD) (by simp [H0.out.2.1]) honed ?_)
  rw [← hwE, ← hg]
  clear hwE hg
  refine wp_region_any (by kernel_rfl) ?_
  refine Vals.wpAny_goodW (KDq wE g x y) (fun _ => (fun W => Below wE.heap.size wE W)) [some 10, some 11, some 12, some 13, some 14, some 15, some 16, some 4, some 5] 17 _ _ rfl (by kernel_rfl) (by kernel_rfl) (by decide) ?step ?fin (Below.refl _ _).drew
  case step =>
    intro i o d ho hd listed a W hls hun hcl hJ hdf hdep hfr K hK
    match i, ho, hd with
    | 0, ho, hd =>
      have ho' := ho
      simp only [List.getElem?_toArray, List.getElem?_cons_zero, Option.some.injEq] at ho hd
      subst ho hd
      have r6 : a.eval (.tmp 6) = .pointer (some ⟨g, 0, none⟩) := hfr 6 (by decide)
      rw [Vals.eval_tmp] at r6
      refine Vals.wpOp_run ho' rfl ?_
      clear hdep hfr ho' hdf hcl
      go_simp
      exact hK _ _ (fun _ _ h => h) hJ (fun _ => rfl)
    | 1, ho, hd =>
      have ho' := ho
      simp only [List.getElem?_toArray, List.getElem?_cons_zero, List.getElem?_cons_succ, Option.some.injEq] at ho hd
      subst ho hd
      have r10 : a.eval (.tmp 10) = .slice (some ⟨g, 0, none⟩) 32 32 := (hdep ⟨0, .data⟩ (by simp) rfl).2 10 rfl
      rw [Vals.eval_tmp] at r10
      refine Vals.wpOp_run ho' rfl ?_
      clear hdep hfr ho' hdf hcl
      go_simp
      refine (HN0.out W hJ).mono ?_
      rintro e w' ⟨rfl, rfl⟩
      exact hK _ _ (fun _ _ h => h) hJ (fun _ => rfl)
    | 2, ho, hd =>
      have ho' := ho
      simp only [List.getElem?_toArray, List.getElem?_cons_zero, List.getElem?_cons_succ, Option.some.injEq] at ho hd
      subst ho hd
      have r11 : a.eval (.tmp 11) = .int .u64 x := (hdep ⟨1, .data⟩ (by simp) rfl).2 11 rfl
      rw [Vals.eval_tmp] at r11
      refine Vals.wpOp_run ho' rfl ?_
      clear hdep hfr ho' hdf hcl
      go_simp
      exact hK _ _ (fun _ _ h => h) hJ (fun _ => (by first | rfl | exact congrArg (Value.int _) (Int.emod_eq_of_lt lox hix)))
    | 3, ho, hd =>
      have ho' := ho
      simp only [List.getElem?_toArray, List.getElem?_cons_zero, List.getElem?_cons_succ, Option.some.injEq] at ho hd
      subst ho hd
      have r12 : a.eval (.tmp 12) = .int .u32 x := (hdep ⟨2, .data⟩ (by simp) rfl).2 12 rfl
      rw [Vals.eval_tmp] at r12
      refine Vals.wpOp_run ho' rfl ?_
      clear hdep hfr ho' hdf hcl
      go_simp
      exact hK _ _ (fun _ _ h => h) hJ (fun _ => rfl)
    | 4, ho, hd =>
      have ho' := ho
      simp only [List.getElem?_toArray, List.getElem?_cons_zero, List.getElem?_cons_succ, Option.some.injEq] at ho hd
      subst ho hd
      have r6 : a.eval (.tmp 6) = .pointer (some ⟨g, 0, none⟩) := hfr 6 (by decide)
      rw [Vals.eval_tmp] at r6
      refine Vals.wpOp_run ho' rfl ?_
      clear hdep hfr ho' hdf hcl
      go_simp
      exact hK _ _ (fun _ _ h => h) hJ (fun _ => rfl)
    | 5, ho, hd =>
      have ho' := ho
      simp only [List.getElem?_toArray, List.getElem?_cons_zero, List.getElem?_cons_succ, Option.some.injEq] at ho hd
      subst ho hd
      have r14 : a.eval (.tmp 14) = .slice (some ⟨g, 0, none⟩) 32 32 := (hdep ⟨4, .data⟩ (by simp) rfl).2 14 rfl
      rw [Vals.eval_tmp] at r14
      refine Vals.wpOp_run ho' rfl ?_
      clear hdep hfr ho' hdf hcl
      go_simp
      refine (HN4.out W hJ).mono ?_
      rintro e w' ⟨rfl, rfl⟩
      exact hK _ _ (fun _ _ h => h) hJ (fun _ => rfl)
    | 6, ho, hd =>
      have ho' := ho
      simp only [List.getElem?_toArray, List.getElem?_cons_zero, List.getElem?_cons_succ, Option.some.injEq] at ho hd
      subst ho hd
      have r15 : a.eval (.tmp 15) = .int .u64 y := (hdep ⟨5, .data⟩ (by simp) rfl).2 15 rfl
      rw [Vals.eval_tmp] at r15
      refine Vals.wpOp_run ho' rfl ?_
      clear hdep hfr ho' hdf hcl
      go_simp
      exact hK _ _ (fun _ _ h => h) hJ (fun _ => (by first | rfl | exact congrArg (Value.int _) (Int.emod_eq_of_lt loy hiy)))
    | 7, ho, hd =>
      have ho' := ho
      simp only [List.getElem?_toArray, List.getElem?_cons_zero, List.getElem?_cons_succ, Option.some.injEq] at ho hd
      subst ho hd
      have r13 : a.eval (.tmp 13) = .int .u32 (max x 1) := (hdep ⟨3, .data⟩ (by simp) rfl).2 13 rfl
      rw [Vals.eval_tmp] at r13
      refine Vals.wpOp_run ho' rfl ?_
      clear hdep hfr ho' hdf hcl
      go_simp
      exact hK _ _ (fun _ _ h => h) hJ (fun _ => rfl)
    | 8, ho, hd =>
      have ho' := ho
      simp only [List.getElem?_toArray, List.getElem?_cons_zero, List.getElem?_cons_succ, Option.some.injEq] at ho hd
      subst ho hd
      have r16 : a.eval (.tmp 16) = .int .u32 y := (hdep ⟨6, .data⟩ (by simp) rfl).2 16 rfl
      rw [Vals.eval_tmp] at r16
      refine Vals.wpOp_run ho' rfl ?_
      clear hdep hfr ho' hdf hcl
      go_simp
      exact hK _ _ (fun _ _ h => h) hJ (fun _ => rfl)
    | i + 9, ho, hd => simp at ho
  case fin =>
    intro listed W f' hall hJ hG
    have q0 : f' 10 = .slice (some ⟨g, 0, none⟩) 32 32 := hG 0 10 rfl
    have q1 : f' 11 = .int .u64 x := hG 1 11 rfl
    have q2 : f' 12 = .int .u32 x := hG 2 12 rfl
    have q3 : f' 13 = .int .u32 (max x 1) := hG 3 13 rfl
    have q4 : f' 14 = .slice (some ⟨g, 0, none⟩) 32 32 := hG 4 14 rfl
    have q5 : f' 15 = .int .u64 y := hG 5 15 rfl
    have q6 : f' 16 = .int .u32 y := hG 6 16 rfl
    have q7 : f' 4 = .int .u32 (max x 1) := hG 7 4 rfl
    have q8 : f' 5 = .int .u32 y := hG 8 5 rfl
    clear hG hall
    simp only [Vals.puts, Vals.pairs, List.filterMap_cons, List.filterMap_nil, id, List.map_cons, List.map_nil, List.foldl_cons, List.foldl_nil, q0, q1, q2, q3, q4, q5, q6, q7, q8]
    clear q0 q1 q2 q3 q4 q5 q6 q7 q8
    go_frame
    have HW := Lib.hid (H2.out.trans (hJ.mono H2.out.size))
    clear hJ
    go_wp2
    go_ret2
    exact ⟨rfl, HW.out⟩
end Go.Proofs.YtcmaclaiholpfaaDoor
