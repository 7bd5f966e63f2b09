/-
  The walk of PacketFits. Written by genpkfits.py.
-/
import Derived.Test.YtnndlpbbllmpjaaPkApi
import Derived.Test.YtnndlpbbllmpjaaPkSums
import Derived.Deep.DeepCutAuto
namespace Go.Proofs.Ytnndlpbbllmpjaa
open Go.RowKit
set_option linter.unusedVariables false
set_option linter.unusedSimpArgs false

/-- What the operations of the drawn region leave behind. -/
def LPF (w w2 : World) (tag : Int) (aq : Option Addr) (n c : Nat) (k f : Int) (ac : Option Addr) (len cap : Nat) (mtu : Int) (fb al : Bool) (i : Nat) (v : Value) (W : World) : Prop := match i with | 0 => v = .agg #[.int .u32 tag, .slice aq n c] | 1 => v = .agg #[.int .u8 k, .int .u8 f, .slice ac len cap] | 2 => v = .int .i64 mtu | 3 => v = .bool fb | 4 => v = .agg #[.int .u32 tag, .slice aq n c] | 5 => v = .agg #[.int .u8 k, .int .u8 f, .slice ac len cap] | 6 => v = .int .i64 mtu | 7 => v = .bool fb | 8 => v = .bool true | 9 => v = .bool true | 10 => v = .pointer (some ⟨w.heap.size + 1, 0, none⟩) | 11 => v = .int .u8 k | 12 => v = .bool al | 13 => v = .pointer (some ⟨w.heap.size + 1, 0, none⟩) | 14 => v = .int .u8 k | 15 => v = .bool al | 16 => v = .bool true | 17 => v = .bool true | 18 => v = .bool true | 19 => v = .bool true | 20 => v = .bool true | 21 => v = .bool true | _ => True
theorem LPF_mono {w w2 : World} {tag : Int} {aq : Option Addr} {n c : Nat} {k f : Int} {ac : Option Addr} {len cap : Nat} {mtu : Int} {fb al : Bool} {W W' : World} (hb : Below W.heap.size W W') (jo : Nat) (xo : Value) (h : LPF w w2 tag aq n c k f ac len cap mtu fb al jo xo W) : LPF w w2 tag aq n c k f ac len cap mtu fb al jo xo W' := by
  unfold LPF at h ⊢
  split at h <;> try exact h
theorem LPF_any {w w2 : World} {tag : Int} {aq : Option Addr} {n c : Nat} {k f : Int} {ac : Option Addr} {len cap : Nat} {mtu : Int} {fb al : Bool} {W W' : World} (jo : Nat) (xo : Value) (h : LPF w w2 tag aq n c k f ac len cap mtu fb al jo xo W) : LPF w w2 tag aq n c k f ac len cap mtu fb al jo xo W' := by
  unfold LPF at h ⊢
  split at h <;> exact h


set_option maxRecDepth 100000 in
set_option maxHeartbeats 800000 in
theorem packetFits_of (PF : PkFitsOk) (PA : PkAloneOk) (WK : PkWorks) (tag : Int) (aq : Option Addr) (n c : Nat) (L : List Ck) (k f : Int) (ac : Option Addr) (len cap : Nat) (z : List Int) (mtu : Int) (w : World) (wt : (Lit.int .u32 tag).wf = true) (h : RowsCk w aq n c L) (wk : (Lit.int .u8 k).wf = true) (wf : (Lit.int .u8 f).wf = true) (wz : IsRow .u8 w ac len cap z) (wm : (Lit.int .i64 mtu).wf = true) :
    Calls Try.prog 5 #[.agg #[.int .u32 tag, .slice aq n c], .agg #[.int .u8 k, .int .u8 f, .slice ac len cap], .int .i64 mtu] w fun e w' => e = .returned (.bool true) ∧ Below w.heap.size w w' := by
  obtain ⟨hr, hbyt, hcap, hmax⟩ := wz.reads
  generalize z.take len = zs at hr hbyt
  obtain ⟨k0, k1⟩ := wf_u8_in wk
  obtain ⟨f0, f1⟩ := wf_u8_in wf
  obtain ⟨m0, m1⟩ := wf_i64_in wm
  have k2 : k < 256 := by omega
  have f2 : f < 256 := by omega
  have hck : CkOk w ⟨k, f, ac, len, cap, zs⟩ := ⟨⟨k0, k2⟩, ⟨f0, f2⟩, hr, hbyt, hcap, hmax⟩
  clear hr hbyt wz wk wf wm wt f0 f1
  obtain ⟨w0, hw0⟩ : ∃ w0, w.alloc (.cells #[.int .u32 tag, .slice aq n c] 25) = w0 := ⟨_, rfl⟩
  have hb0 : Below w.heap.size w w0 := by rw [← hw0]; exact (Below.refl _ _).alloc (Nat.le_refl _) _
  have hs0 : w0.heap.size = w.heap.size + 1 := by rw [← hw0]; simp
  have hA : Arr w0 w.heap.size 25 [.int .u32 tag, .slice aq n c] := by rw [← hw0]; exact arr_new _ _ _
  obtain ⟨w1, hw1⟩ : ∃ w1, w0.alloc (.cells #[.int .u8 k, .int .u8 f, .slice ac len cap] 41) = w1 := ⟨_, rfl⟩
  have hb1 : Below w0.heap.size w0 w1 := by rw [← hw1]; exact (Below.refl _ _).alloc (Nat.le_refl _) _
  have hC : Arr w1 (w.heap.size + 1) 41 [.int .u8 k, .int .u8 f, .slice ac len cap] := by rw [← hw1, ← hs0]; exact arr_new _ _ _
  have hb01 := hb0.trans (hb1.mono hb0.size)
  have hA1 := hA.keep hb1
  have c0 := hA1.cell (i := 0) rfl
  have c1 := hA1.cell (i := 1) rfl
  have HLG := Lib.hid (large_any tag aq n c L w1 (h.below hb01))
  have HAq := Lib.hid hA1
  have HCq := Lib.hid hC
  have HB := Lib.hid hb01
  have HROW := Lib.hid h
  have HCK := Lib.hid hck
  clear hb0 hA hb1 hC hb01 hA1 h hck
  go_enter Try.func5, Try.ntmps5
  go_wp2_with fail
  refine HLG.out.mono ?_
  rintro e w2 ⟨lg, rfl, hb2, hsm⟩
  have HBW := Lib.hid (HB.out.trans (hb2.mono HB.out.size))
  have HA := Lib.hid (HAq.out.keep hb2)
  have HC := Lib.hid (HCq.out.keep hb2)
  have HSM := Lib.hid hsm
  clear c0 c1 hb2 HAq HCq HB hsm
  have c2 := HC.out.cell (i := 2) rfl
  cases lg with
  | true =>
    go_wp2_with fail
    refine (WK w2).mono ?_
    rintro e w3 ⟨rfl, hb3⟩
    have HF := Lib.hid (HBW.out.trans (hb3.mono HBW.out.size))
    clear hb3
    go_wp2
    go_ret
    exact ⟨rfl, HF.out⟩
  | false =>
    by_cases hlen : (len : Int) > 262144
    · go_wp2_with fail
      refine (WK w2).mono ?_
      rintro e w3 ⟨rfl, hb3⟩
      have HF := Lib.hid (HBW.out.trans (hb3.mono HBW.out.size))
      clear hb3
      go_wp2
      go_ret
      exact ⟨rfl, HF.out⟩
    have hlf : decide ((len : Int) > 262144) = false := by simp; omega
    obtain ⟨hs1, hs2⟩ := HSM.out rfl
    have hsz : sizeP (pcs L ++ [Ck.pc ⟨k, f, ac, len, cap, zs⟩]) ≤ 4611686018427387903 := by have h1 := sizeP_more HROW.out.row HCK.out; have h2 := HROW.out.hlen; have h3 : (Ck.mk k f ac len cap zs).n = len := rfl; rw [h3] at h1; omega
    obtain ⟨fb, hfb⟩ : ∃ fb, fitsB (pcs L) (Ck.pc ⟨k, f, ac, len, cap, zs⟩) mtu = fb := ⟨_, rfl⟩
    obtain ⟨al, hal⟩ : ∃ al, aloneK k = al := ⟨_, rfl⟩
    have HPF := Lib.hid (show ∀ W, Below w.heap.size w W → _ from fun W hb => PF tag aq n c L ⟨k, f, ac, len, cap, zs⟩ mtu W (HROW.out.below hb) (HCK.out.below hb) (by omega) hsz (by omega) (by omega))
    have HRF := Lib.hid (show ∀ W, Below w.heap.size w W → _ from fun W hb => rfits_any tag aq n c L ⟨k, f, ac, len, cap, zs⟩ mtu W (HROW.out.below hb) (HCK.out.below hb) (by omega) hsz (by omega) (by omega))
    have HPA := Lib.hid (show ∀ W, _ from fun W => PA k W k0 (by omega))
    have HRA := Lib.hid (show ∀ W, _ from fun W => ralone_any k W)
    rw [hfb] at HPF HRF
    rw [hal] at HPA HRA
    clear hfb hal hsz HLG hs1 hs2
    go_wp2_with fail
    clear c2
    refine wp_region_any (by kernel_rfl) ?_
    refine Vals.wpAny_goodW (LPF w w2 tag aq n c k f ac len cap mtu fb al) (fun _ => (fun W => Below w2.heap.size w2 W)) [some 16, some 17, some 18, some 19, some 20, some 21, some 22, some 23, some 24, some 25, some 26, some 27, some 28, some 29, some 30, some 31, some 32, some 33, some 34, some 35, some 36, some 6] 37 _ _ rfl (by kernel_rfl) (by kernel_rfl) (by decide) ?step ?fin (Below.refl _ _).drew
    case step =>
      intro i o d ho hd listed a W hls hun hcl hJ hdf hdep hfr K hK
      match i, ho, hd with
      | 0, ho, hd =>
        have ho' := ho
        simp only [List.getElem?_toArray, List.getElem?_cons_zero, Option.some.injEq] at ho hd
        subst ho hd
        have r3 : a.eval (.tmp 3) = .pointer (some ⟨w.heap.size, 0, none⟩) := hfr 3 (by decide)
        rw [Vals.eval_tmp] at r3
        have c0 := (HA.out.keep hJ).cell (i := 0) rfl
        have c1 := (HA.out.keep hJ).cell (i := 1) rfl
        refine Vals.wpOp_run ho' rfl ?_
        clear hdep hfr ho' hdf hcl
        go_simp
        exact hK _ _ (fun _ _ h => h) hJ (fun _ => rfl)
      | 1, ho, hd =>
        have ho' := ho
        simp only [List.getElem?_toArray, List.getElem?_cons_zero, List.getElem?_cons_succ, Option.some.injEq] at ho hd
        subst ho hd
        have r4 : a.eval (.tmp 4) = .pointer (some ⟨w.heap.size + 1, 0, none⟩) := hfr 4 (by decide)
        rw [Vals.eval_tmp] at r4
        have c0 := (HC.out.keep hJ).cell (i := 0) rfl
        have c1 := (HC.out.keep hJ).cell (i := 1) rfl
        have c2 := (HC.out.keep hJ).cell (i := 2) rfl
        refine Vals.wpOp_run ho' rfl ?_
        clear hdep hfr ho' hdf hcl
        go_simp
        exact hK _ _ (fun _ _ h => h) hJ (fun _ => rfl)
      | 2, ho, hd =>
        have ho' := ho
        simp only [List.getElem?_toArray, List.getElem?_cons_zero, List.getElem?_cons_succ, Option.some.injEq] at ho hd
        subst ho hd
        have r2 : a.eval (.tmp 2) = .int .i64 mtu := hfr 2 (by decide)
        rw [Vals.eval_tmp] at r2
        refine Vals.wpOp_run ho' rfl ?_
        clear hdep hfr ho' hdf hcl
        go_simp
        exact hK _ _ (fun _ _ h => h) hJ (fun _ => rfl)
      | 3, ho, hd =>
        have ho' := ho
        simp only [List.getElem?_toArray, List.getElem?_cons_zero, List.getElem?_cons_succ, Option.some.injEq] at ho hd
        subst ho hd
        have r16 : a.eval (.tmp 16) = .agg #[.int .u32 tag, .slice aq n c] := (hdep ⟨0, .data⟩ (by simp) rfl).2 16 rfl
        rw [Vals.eval_tmp] at r16
        have r17 : a.eval (.tmp 17) = .agg #[.int .u8 k, .int .u8 f, .slice ac len cap] := (hdep ⟨1, .data⟩ (by simp) rfl).2 17 rfl
        rw [Vals.eval_tmp] at r17
        have r18 : a.eval (.tmp 18) = .int .i64 mtu := (hdep ⟨2, .data⟩ (by simp) rfl).2 18 rfl
        rw [Vals.eval_tmp] at r18
        refine Vals.wpOp_run ho' rfl ?_
        clear hdep hfr ho' hdf hcl
        go_simp
        refine (HPF.out W (HBW.out.trans (hJ.mono HBW.out.size))).mono ?_
        rintro e w' ⟨rfl, hb3⟩
        exact hK _ _ (LPF_mono hb3) (hJ.trans (hb3.mono hJ.size)) (fun _ => rfl)
      | 4, ho, hd =>
        have ho' := ho
        simp only [List.getElem?_toArray, List.getElem?_cons_zero, List.getElem?_cons_succ, Option.some.injEq] at ho hd
        subst ho hd
        have r3 : a.eval (.tmp 3) = .pointer (some ⟨w.heap.size, 0, none⟩) := hfr 3 (by decide)
        rw [Vals.eval_tmp] at r3
        have c0 := (HA.out.keep hJ).cell (i := 0) rfl
        have c1 := (HA.out.keep hJ).cell (i := 1) rfl
        refine Vals.wpOp_run ho' rfl ?_
        clear hdep hfr ho' hdf hcl
        go_simp
        exact hK _ _ (fun _ _ h => h) hJ (fun _ => rfl)
      | 5, ho, hd =>
        have ho' := ho
        simp only [List.getElem?_toArray, List.getElem?_cons_zero, List.getElem?_cons_succ, Option.some.injEq] at ho hd
        subst ho hd
        have r4 : a.eval (.tmp 4) = .pointer (some ⟨w.heap.size + 1, 0, none⟩) := hfr 4 (by decide)
        rw [Vals.eval_tmp] at r4
        have c0 := (HC.out.keep hJ).cell (i := 0) rfl
        have c1 := (HC.out.keep hJ).cell (i := 1) rfl
        have c2 := (HC.out.keep hJ).cell (i := 2) rfl
        refine Vals.wpOp_run ho' rfl ?_
        clear hdep hfr ho' hdf hcl
        go_simp
        exact hK _ _ (fun _ _ h => h) hJ (fun _ => rfl)
      | 6, ho, hd =>
        have ho' := ho
        simp only [List.getElem?_toArray, List.getElem?_cons_zero, List.getElem?_cons_succ, Option.some.injEq] at ho hd
        subst ho hd
        have r2 : a.eval (.tmp 2) = .int .i64 mtu := hfr 2 (by decide)
        rw [Vals.eval_tmp] at r2
        refine Vals.wpOp_run ho' rfl ?_
        clear hdep hfr ho' hdf hcl
        go_simp
        exact hK _ _ (fun _ _ h => h) hJ (fun _ => rfl)
      | 7, ho, hd =>
        have ho' := ho
        simp only [List.getElem?_toArray, List.getElem?_cons_zero, List.getElem?_cons_succ, Option.some.injEq] at ho hd
        subst ho hd
        have r20 : a.eval (.tmp 20) = .agg #[.int .u32 tag, .slice aq n c] := (hdep ⟨4, .data⟩ (by simp) rfl).2 20 rfl
        rw [Vals.eval_tmp] at r20
        have r21 : a.eval (.tmp 21) = .agg #[.int .u8 k, .int .u8 f, .slice ac len cap] := (hdep ⟨5, .data⟩ (by simp) rfl).2 21 rfl
        rw [Vals.eval_tmp] at r21
        have r22 : a.eval (.tmp 22) = .int .i64 mtu := (hdep ⟨6, .data⟩ (by simp) rfl).2 22 rfl
        rw [Vals.eval_tmp] at r22
        refine Vals.wpOp_run ho' rfl ?_
        clear hdep hfr ho' hdf hcl
        go_simp
        refine (HRF.out W (HBW.out.trans (hJ.mono HBW.out.size))).mono ?_
        rintro e w' ⟨rfl, hb3⟩
        exact hK _ _ (LPF_mono hb3) (hJ.trans (hb3.mono hJ.size)) (fun _ => rfl)
      | 8, ho, hd =>
        have ho' := ho
        simp only [List.getElem?_toArray, List.getElem?_cons_zero, List.getElem?_cons_succ, Option.some.injEq] at ho hd
        subst ho hd
        have r19 : a.eval (.tmp 19) = .bool fb := (hdep ⟨3, .data⟩ (by simp) rfl).2 19 rfl
        rw [Vals.eval_tmp] at r19
        have r23 : a.eval (.tmp 23) = .bool fb := (hdep ⟨7, .data⟩ (by simp) rfl).2 23 rfl
        rw [Vals.eval_tmp] at r23
        refine Vals.wpOp_run ho' rfl ?_
        clear hdep hfr ho' hdf hcl
        go_simp
        exact hK _ _ (fun _ _ h => h) hJ (fun _ => by first | rfl | simp)
      | 9, ho, hd =>
        have ho' := ho
        simp only [List.getElem?_toArray, List.getElem?_cons_zero, List.getElem?_cons_succ, Option.some.injEq] at ho hd
        subst ho hd
        have r24 : a.eval (.tmp 24) = .bool true := (hdep ⟨8, .data⟩ (by simp) rfl).2 24 rfl
        rw [Vals.eval_tmp] at r24
        refine Vals.wpOp_run ho' rfl ?_
        clear hdep hfr ho' hdf hcl
        go_simp
        exact hK _ _ (fun _ _ h => h) hJ (fun _ => rfl)
      | 10, ho, hd =>
        have ho' := ho
        simp only [List.getElem?_toArray, List.getElem?_cons_zero, List.getElem?_cons_succ, Option.some.injEq] at ho hd
        subst ho hd
        have hgd : a.eval (.tmp 25) = .bool true := (hdep ⟨9, .guard⟩ (by simp) rfl).2 25 rfl
        have r4 : a.eval (.tmp 4) = .pointer (some ⟨w.heap.size + 1, 0, none⟩) := hfr 4 (by decide)
        rw [Vals.eval_tmp] at r4
        refine Vals.wpOp_run ho' (by unfold Region.wanted; simp only []; rw [Vals.yielded_of (d := 25) rfl hgd]; rfl) ?_
        clear hdep hfr ho' hdf hgd hcl
        go_simp
        exact hK _ _ (fun _ _ h => h) hJ (fun _ => rfl)
      | 11, ho, hd =>
        have ho' := ho
        simp only [List.getElem?_toArray, List.getElem?_cons_zero, List.getElem?_cons_succ, Option.some.injEq] at ho hd
        subst ho hd
        have hgd : a.eval (.tmp 25) = .bool true := (hdep ⟨9, .guard⟩ (by simp) rfl).2 25 rfl
        have r26 : a.eval (.tmp 26) = .pointer (some ⟨w.heap.size + 1, 0, none⟩) := (hdep ⟨10, .data⟩ (by simp) rfl).2 26 rfl
        rw [Vals.eval_tmp] at r26
        have c0 := (HC.out.keep hJ).cell (i := 0) rfl
        refine Vals.wpOp_run ho' (by unfold Region.wanted; simp only []; rw [Vals.yielded_of (d := 25) rfl hgd]; rfl) ?_
        clear hdep hfr ho' hdf hgd hcl
        go_simp
        exact hK _ _ (fun _ _ h => h) hJ (fun _ => rfl)
      | 12, ho, hd =>
        have ho' := ho
        simp only [List.getElem?_toArray, List.getElem?_cons_zero, List.getElem?_cons_succ, Option.some.injEq] at ho hd
        subst ho hd
        have hgd : a.eval (.tmp 25) = .bool true := (hdep ⟨9, .guard⟩ (by simp) rfl).2 25 rfl
        have r27 : a.eval (.tmp 27) = .int .u8 k := (hdep ⟨11, .data⟩ (by simp) rfl).2 27 rfl
        rw [Vals.eval_tmp] at r27
        refine Vals.wpOp_run ho' (by unfold Region.wanted; simp only []; rw [Vals.yielded_of (d := 25) rfl hgd]; rfl) ?_
        clear hdep hfr ho' hdf hgd hcl
        go_simp
        refine (HPA.out W).mono ?_
        rintro e w' ⟨rfl, rfl⟩
        exact hK _ _ (fun _ _ h => h) hJ (fun _ => rfl)
      | 13, ho, hd =>
        have ho' := ho
        simp only [List.getElem?_toArray, List.getElem?_cons_zero, List.getElem?_cons_succ, Option.some.injEq] at ho hd
        subst ho hd
        have hgd : a.eval (.tmp 25) = .bool true := (hdep ⟨9, .guard⟩ (by simp) rfl).2 25 rfl
        have r4 : a.eval (.tmp 4) = .pointer (some ⟨w.heap.size + 1, 0, none⟩) := hfr 4 (by decide)
        rw [Vals.eval_tmp] at r4
        refine Vals.wpOp_run ho' (by unfold Region.wanted; simp only []; rw [Vals.yielded_of (d := 25) rfl hgd]; rfl) ?_
        clear hdep hfr ho' hdf hgd hcl
        go_simp
        exact hK _ _ (fun _ _ h => h) hJ (fun _ => rfl)
      | 14, ho, hd =>
        have ho' := ho
        simp only [List.getElem?_toArray, List.getElem?_cons_zero, List.getElem?_cons_succ, Option.some.injEq] at ho hd
        subst ho hd
        have hgd : a.eval (.tmp 25) = .bool true := (hdep ⟨9, .guard⟩ (by simp) rfl).2 25 rfl
        have r29 : a.eval (.tmp 29) = .pointer (some ⟨w.heap.size + 1, 0, none⟩) := (hdep ⟨13, .data⟩ (by simp) rfl).2 29 rfl
        rw [Vals.eval_tmp] at r29
        have c0 := (HC.out.keep hJ).cell (i := 0) rfl
        refine Vals.wpOp_run ho' (by unfold Region.wanted; simp only []; rw [Vals.yielded_of (d := 25) rfl hgd]; rfl) ?_
        clear hdep hfr ho' hdf hgd hcl
        go_simp
        exact hK _ _ (fun _ _ h => h) hJ (fun _ => rfl)
      | 15, ho, hd =>
        have ho' := ho
        simp only [List.getElem?_toArray, List.getElem?_cons_zero, List.getElem?_cons_succ, Option.some.injEq] at ho hd
        subst ho hd
        have hgd : a.eval (.tmp 25) = .bool true := (hdep ⟨9, .guard⟩ (by simp) rfl).2 25 rfl
        have r30 : a.eval (.tmp 30) = .int .u8 k := (hdep ⟨14, .data⟩ (by simp) rfl).2 30 rfl
        rw [Vals.eval_tmp] at r30
        refine Vals.wpOp_run ho' (by unfold Region.wanted; simp only []; rw [Vals.yielded_of (d := 25) rfl hgd]; rfl) ?_
        clear hdep hfr ho' hdf hgd hcl
        go_simp
        refine (HRA.out W).mono ?_
        rintro e w' ⟨rfl, rfl⟩
        exact hK _ _ (fun _ _ h => h) hJ (fun _ => rfl)
      | 16, ho, hd =>
        have ho' := ho
        simp only [List.getElem?_toArray, List.getElem?_cons_zero, List.getElem?_cons_succ, Option.some.injEq] at ho hd
        subst ho hd
        have hgd : a.eval (.tmp 25) = .bool true := (hdep ⟨9, .guard⟩ (by simp) rfl).2 25 rfl
        have r28 : a.eval (.tmp 28) = .bool al := (hdep ⟨12, .data⟩ (by simp) rfl).2 28 rfl
        rw [Vals.eval_tmp] at r28
        have r31 : a.eval (.tmp 31) = .bool al := (hdep ⟨15, .data⟩ (by simp) rfl).2 31 rfl
        rw [Vals.eval_tmp] at r31
        refine Vals.wpOp_run ho' (by unfold Region.wanted; simp only []; rw [Vals.yielded_of (d := 25) rfl hgd]; rfl) ?_
        clear hdep hfr ho' hdf hgd hcl
        go_simp
        exact hK _ _ (fun _ _ h => h) hJ (fun _ => by first | rfl | simp)
      | 17, ho, hd =>
        have ho' := ho
        simp only [List.getElem?_toArray, List.getElem?_cons_zero, List.getElem?_cons_succ, Option.some.injEq] at ho hd
        subst ho hd
        have r25 : a.eval (.tmp 25) = .bool true := (hdep ⟨9, .data⟩ (by simp) rfl).2 25 rfl
        rw [Vals.eval_tmp] at r25
        have r32 : a.eval (.tmp 32) = .bool true := (hdep ⟨16, .data⟩ (by simp) rfl).2 32 rfl
        rw [Vals.eval_tmp] at r32
        refine Vals.wpOp_run ho' rfl ?_
        clear hdep hfr ho' hdf hcl
        go_simp
        exact hK _ _ (fun _ _ h => h) hJ (fun _ => rfl)
      | 18, ho, hd =>
        have ho' := ho
        simp only [List.getElem?_toArray, List.getElem?_cons_zero, List.getElem?_cons_succ, Option.some.injEq] at ho hd
        subst ho hd
        have r33 : a.eval (.tmp 33) = .bool true := (hdep ⟨17, .data⟩ (by simp) rfl).2 33 rfl
        rw [Vals.eval_tmp] at r33
        refine Vals.wpOp_run ho' rfl ?_
        clear hdep hfr ho' hdf hcl
        go_simp
        exact hK _ _ (fun _ _ h => h) hJ (fun _ => rfl)
      | 19, ho, hd =>
        have ho' := ho
        simp only [List.getElem?_toArray, List.getElem?_cons_zero, List.getElem?_cons_succ, Option.some.injEq] at ho hd
        subst ho hd
        have hgd : a.eval (.tmp 34) = .bool true := (hdep ⟨18, .guard⟩ (by simp) rfl).2 34 rfl
        refine Vals.wpOp_run ho' (by unfold Region.wanted; simp only []; rw [Vals.yielded_of (d := 34) rfl hgd]; rfl) ?_
        clear hdep hfr ho' hdf hgd hcl
        go_simp
        refine (WK W).mono ?_
        rintro e w' ⟨rfl, hb3⟩
        exact hK _ _ (LPF_mono hb3) (hJ.trans (hb3.mono hJ.size)) (fun _ => rfl)
      | 20, ho, hd =>
        have ho' := ho
        simp only [List.getElem?_toArray, List.getElem?_cons_zero, List.getElem?_cons_succ, Option.some.injEq] at ho hd
        subst ho hd
        have r34 : a.eval (.tmp 34) = .bool true := (hdep ⟨18, .data⟩ (by simp) rfl).2 34 rfl
        rw [Vals.eval_tmp] at r34
        have r35 : a.eval (.tmp 35) = .bool true := (hdep ⟨19, .data⟩ (by simp) rfl).2 35 rfl
        rw [Vals.eval_tmp] at r35
        refine Vals.wpOp_run ho' rfl ?_
        clear hdep hfr ho' hdf hcl
        go_simp
        exact hK _ _ (fun _ _ h => h) hJ (fun _ => rfl)
      | 21, ho, hd =>
        have ho' := ho
        simp only [List.getElem?_toArray, List.getElem?_cons_zero, List.getElem?_cons_succ, Option.some.injEq] at ho hd
        subst ho hd
        have r36 : a.eval (.tmp 36) = .bool true := (hdep ⟨20, .data⟩ (by simp) rfl).2 36 rfl
        rw [Vals.eval_tmp] at r36
        refine Vals.wpOp_run ho' rfl ?_
        clear hdep hfr ho' hdf hcl
        go_simp
        exact hK _ _ (fun _ _ h => h) hJ (fun _ => rfl)
      | i + 22, ho, hd => simp at ho
    case fin =>
      intro listed W fq hall hJ hG
      have q0 : fq 16 = .agg #[.int .u32 tag, .slice aq n c] := hG 0 16 rfl
      have q1 : fq 17 = .agg #[.int .u8 k, .int .u8 f, .slice ac len cap] := hG 1 17 rfl
      have q2 : fq 18 = .int .i64 mtu := hG 2 18 rfl
      have q3 : fq 19 = .bool fb := hG 3 19 rfl
      have q4 : fq 20 = .agg #[.int .u32 tag, .slice aq n c] := hG 4 20 rfl
      have q5 : fq 21 = .agg #[.int .u8 k, .int .u8 f, .slice ac len cap] := hG 5 21 rfl
      have q6 : fq 22 = .int .i64 mtu := hG 6 22 rfl
      have q7 : fq 23 = .bool fb := hG 7 23 rfl
      have q8 : fq 24 = .bool true := hG 8 24 rfl
      have q9 : fq 25 = .bool true := hG 9 25 rfl
      have q10 : fq 26 = .pointer (some ⟨w.heap.size + 1, 0, none⟩) := hG 10 26 rfl
      have q11 : fq 27 = .int .u8 k := hG 11 27 rfl
      have q12 : fq 28 = .bool al := hG 12 28 rfl
      have q13 : fq 29 = .pointer (some ⟨w.heap.size + 1, 0, none⟩) := hG 13 29 rfl
      have q14 : fq 30 = .int .u8 k := hG 14 30 rfl
      have q15 : fq 31 = .bool al := hG 15 31 rfl
      have q16 : fq 32 = .bool true := hG 16 32 rfl
      have q17 : fq 33 = .bool true := hG 17 33 rfl
      have q18 : fq 34 = .bool true := hG 18 34 rfl
      have q19 : fq 35 = .bool true := hG 19 35 rfl
      have q20 : fq 36 = .bool true := hG 20 36 rfl
      have q21 : fq 6 = .bool true := hG 21 6 rfl
      clear hG hall
      simp only [Vals.puts, Vals.pairs, List.filterMap_cons, List.filterMap_nil, id, List.map_cons, List.map_nil, List.foldl_cons, List.foldl_nil, q0, q1, q2, q3, q4, q5, q6, q7, q8, q9, q10, q11, q12, q13, q14, q15, q16, q17, q18, q19, q20, q21]
      clear q0 q1 q2 q3 q4 q5 q6 q7 q8 q9 q10 q11 q12 q13 q14 q15 q16 q17 q18 q19 q20 q21
      go_frame
      have HF := Lib.hid (HBW.out.trans (hJ.mono HBW.out.size))
      clear hJ
      go_wp2
      go_ret
      exact ⟨rfl, HF.out⟩

end Go.Proofs.Ytnndlpbbllmpjaa
