/-
  Stage 9: the six copies of bodies.checked. Written by genchk.py.
-/
import Derived.Test.YtlihcckgnnnekaaBdVal
import Derived.Test.YtlihcckgnnnekaaGoodW
namespace Go.Proofs.Ytlihcckgnnnekaa
open Go.RowKit
set_option linter.unusedVariables false
set_option linter.unusedSimpArgs false

/-- What the operations of the drawn region leave behind. -/
def ChkCum (w wE : World) (k f k' f' : Int) (p : Option Addr) (n c : Nat) (ys : List Int) (bb : Bool) (x0 : Int) (i : Nat) (v : Value) (W : World) : Prop := match i with | 0 => v = .bool true | 1 => v = .bool false | 2 => v = .bool false | 3 => v = .agg #[.int .u8 k, .int .u8 f, .slice p n c] | 4 => v = (.func (.func 45) #[] #[]) | 5 => v = .int .u32 x0 | 6 => ∃ a1 c1, v = .agg #[.int .u8 k', .int .u8 f', .slice a1 ys.length c1] ∧ Reads W a1 ys.length ys | 7 => v = .bool bb | 8 => v = .bool (!bb) | 9 => v = .bool (!bb) | _ => True
theorem ChkCum_mono {w wE : World} {k f k' f' : Int} {p : Option Addr} {n c : Nat} {ys : List Int} {bb : Bool} {x0 : Int} {W W' : World} (hb : Below W.heap.size W W') (j : Nat) (x : Value) (h : ChkCum w wE k f k' f' p n c ys bb x0 j x W) : ChkCum w wE k f k' f' p n c ys bb x0 j x W' := by
  unfold ChkCum at h ⊢
  split at h <;> try exact h
  · obtain ⟨a1, c1, e0, h0_0⟩ := h
    exact ⟨a1, c1, e0, h0_0.below hb⟩

set_option maxRecDepth 100000 in
set_option maxHeartbeats 3200000 in
theorem checkedCum (k f k' f' : Int) (p : Option Addr) (n c : Nat) (zs ys : List Int) (v : Bool) (x0 : Int) (w : World) (hr : Reads w p n zs) (hz : Byt zs) (hy : Byt ys) (hn : n ≤ 140737488355328) (hm : ys.length ≤ 140737488355328)
    (hput : ∀ W, Below w.heap.size w W → Calls Try.prog 45 #[.int .u32 x0] W fun e w' => Puts W k' f' ys e w') :
    Calls Try.prog 70 #[.agg #[.int .u8 k, .int .u8 f, .slice p n c], .int .u32 x0, .bool v, (.func (.func 45) #[] #[])] w fun e w' =>
      Chose (v && eqC k f zs k' f' ys) (.int .u32 x0) (.int .u32 0) e ∧ Below w.heap.size w w' := by
  obtain ⟨wa, hwa⟩ : ∃ wa, w.alloc (.cells #[.int .u8 k, .int .u8 f, .slice p n c] 28) = wa := ⟨_, rfl⟩
  have hba : Below w.heap.size w wa := by rw [← hwa]; exact chunkBelow w k f _
  have hsa : wa.heap.size = w.heap.size + 1 := by rw [← hwa]; simp
  have hca : Arr wa w.heap.size 28 [.int .u8 k, .int .u8 f, .slice p n c] := by rw [← hwa]; exact chunkBox w k f _
  obtain ⟨wE, hwE⟩ : ∃ wE, wE = wa := ⟨_, rfl⟩
  have HBE := Lib.hid (show Below w.heap.size w wE from by rw [hwE]; exact hba)
  have HC := Lib.hid (show Arr wE w.heap.size 28 [.int .u8 k, .int .u8 f, .slice p n c] from by rw [hwE]; exact hca)
  obtain ⟨bb, hbb'⟩ : ∃ bb, bb = eqC k f zs k' f' ys := ⟨_, rfl⟩
  rw [← hbb']
  have HBB := Lib.hid hbb'
  have HR := Lib.hid (And.intro hr (And.intro hz (And.intro hy (And.intro hn hm))))
  have HPUT := Lib.hid hput
  clear hr hz hy hn hm hput hbb' hba hca
  go_enter Try.func70, Try.ntmps70
  cases v with
  | false =>
    clear HBB HR HPUT
    go_wp2_with fail
    go_quiet (fail)
    have HZW := Lib.hid (show Below w.heap.size w (wE.drewN nq) from below_drewN HBE.out nq)
    try rw [hwE] at HZW
    go_wp2
    go_ret2
    exact ⟨.inr ⟨rfl, rfl⟩, HZW.out⟩
  | true =>
    simp only [Bool.true_and]
    go_wp2_with fail
    rw [← hwE]
    refine wp_region_any (by kernel_rfl) ?_
    refine Vals.wpAny_goodW (ChkCum w wE k f k' f' p n c ys bb x0) (fun _ => (fun W => Below wE.heap.size wE W)) [some 11, some 12, some 13, some 14, some 15, some 16, some 17, some 18, some 19, some 20] 23 _ _ rfl (by kernel_rfl) (by kernel_rfl) (by decide) ?step ?fin (Below.refl _ _).drew
    case step =>
      intro i o d ho hd listed a W hls hun hcl hJ hdf hdep hfr K hK
      match i, ho, hd with
      | 0, ho, hd =>
        have ho' := ho
        simp only [List.getElem?_toArray, List.getElem?_cons_zero, Option.some.injEq] at ho hd
        subst ho hd
        have r2 : a.eval (.tmp 2) = .bool true := hfr 2 (by decide)
        rw [Vals.eval_tmp] at r2
        refine Vals.wpOp_run ho' rfl ?_
        clear hdep hfr ho' hdf hcl
        go_simp
        exact hK _ _ (fun _ _ h => h) hJ (fun _ => rfl)
      | 1, ho, hd =>
        have ho' := ho
        simp only [List.getElem?_toArray, List.getElem?_cons_zero, List.getElem?_cons_succ, Option.some.injEq] at ho hd
        subst ho hd
        have r11 : a.eval (.tmp 11) = .bool true := (hdep ⟨0, .data⟩ (by simp) rfl).2 11 rfl
        rw [Vals.eval_tmp] at r11
        refine Vals.wpOp_run ho' rfl ?_
        clear hdep hfr ho' hdf hcl
        go_simp
        exact hK _ _ (fun _ _ h => h) hJ (fun _ => rfl)
      | 2, ho, hd =>
        have ho' := ho
        simp only [List.getElem?_toArray, List.getElem?_cons_zero, List.getElem?_cons_succ, Option.some.injEq] at ho hd
        subst ho hd
        have r12 : a.eval (.tmp 12) = .bool false := (hdep ⟨1, .data⟩ (by simp) rfl).2 12 rfl
        rw [Vals.eval_tmp] at r12
        refine Vals.wpOp_run ho' rfl ?_
        clear hdep hfr ho' hdf hcl
        go_simp
        exact hK _ _ (fun _ _ h => h) hJ (fun _ => rfl)
      | 3, ho, hd =>
        have ho' := ho
        simp only [List.getElem?_toArray, List.getElem?_cons_zero, List.getElem?_cons_succ, Option.some.injEq] at ho hd
        subst ho hd
        have hgd : a.eval (.tmp 13) = .bool false := (hdep ⟨2, .guard⟩ (by simp) rfl).2 13 rfl
        have r4 : a.eval (.tmp 4) = .pointer (some ⟨w.heap.size, 0, none⟩) := hfr 4 (by decide)
        rw [Vals.eval_tmp] at r4
        have c0 := (HC.out.keep hJ).cell (i := 0) rfl
        have c1 := (HC.out.keep hJ).cell (i := 1) rfl
        have c2 := (HC.out.keep hJ).cell (i := 2) rfl
        refine Vals.wpOp_run ho' (by unfold Region.wanted; simp only []; rw [Vals.yielded_of (d := 13) rfl hgd]; rfl) ?_
        clear hdep hfr ho' hdf hgd hcl
        go_simp
        exact hK _ _ (fun _ _ h => h) hJ (fun _ => rfl)
      | 4, ho, hd =>
        have ho' := ho
        simp only [List.getElem?_toArray, List.getElem?_cons_zero, List.getElem?_cons_succ, Option.some.injEq] at ho hd
        subst ho hd
        have hgd : a.eval (.tmp 13) = .bool false := (hdep ⟨2, .guard⟩ (by simp) rfl).2 13 rfl
        have r3 : a.eval (.tmp 3) = (.func (.func 45) #[] #[]) := hfr 3 (by decide)
        rw [Vals.eval_tmp] at r3
        refine Vals.wpOp_run ho' (by unfold Region.wanted; simp only []; rw [Vals.yielded_of (d := 13) rfl hgd]; rfl) ?_
        clear hdep hfr ho' hdf hgd hcl
        go_simp
        exact hK _ _ (fun _ _ h => h) hJ (fun _ => rfl)
      | 5, ho, hd =>
        have ho' := ho
        simp only [List.getElem?_toArray, List.getElem?_cons_zero, List.getElem?_cons_succ, Option.some.injEq] at ho hd
        subst ho hd
        have hgd : a.eval (.tmp 13) = .bool false := (hdep ⟨2, .guard⟩ (by simp) rfl).2 13 rfl
        have r1 : a.eval (.tmp 1) = .int .u32 x0 := hfr 1 (by decide)
        rw [Vals.eval_tmp] at r1
        refine Vals.wpOp_run ho' (by unfold Region.wanted; simp only []; rw [Vals.yielded_of (d := 13) rfl hgd]; rfl) ?_
        clear hdep hfr ho' hdf hgd hcl
        go_simp
        exact hK _ _ (fun _ _ h => h) hJ (fun _ => rfl)
      | 6, ho, hd =>
        have ho' := ho
        simp only [List.getElem?_toArray, List.getElem?_cons_zero, List.getElem?_cons_succ, Option.some.injEq] at ho hd
        subst ho hd
        have hgd : a.eval (.tmp 13) = .bool false := (hdep ⟨2, .guard⟩ (by simp) rfl).2 13 rfl
        have r15 : a.eval (.tmp 15) = (.func (.func 45) #[] #[]) := (hdep ⟨4, .data⟩ (by simp) rfl).2 15 rfl
        rw [Vals.eval_tmp] at r15
        have r16 : a.eval (.tmp 16) = .int .u32 x0 := (hdep ⟨5, .data⟩ (by simp) rfl).2 16 rfl
        rw [Vals.eval_tmp] at r16
        refine Vals.wpOp_run ho' (by unfold Region.wanted; simp only []; rw [Vals.yielded_of (d := 13) rfl hgd]; rfl) ?_
        clear hdep hfr ho' hdf hgd hcl
        go_simp
        refine (HPUT.out W (HBE.out.trans (hJ.mono HBE.out.size))).mono ?_
        rintro e w' ⟨a1, c1, rfl, hb3, hr3⟩
        exact hK _ _ (ChkCum_mono hb3) (hJ.trans (hb3.mono hJ.size)) (fun _ => ⟨_, _, rfl, hr3.reads⟩)
      | 7, ho, hd =>
        have ho' := ho
        simp only [List.getElem?_toArray, List.getElem?_cons_zero, List.getElem?_cons_succ, Option.some.injEq] at ho hd
        subst ho hd
        have hgd : a.eval (.tmp 13) = .bool false := (hdep ⟨2, .guard⟩ (by simp) rfl).2 13 rfl
        have r14 : a.eval (.tmp 14) = .agg #[.int .u8 k, .int .u8 f, .slice p n c] := (hdep ⟨3, .data⟩ (by simp) rfl).2 14 rfl
        rw [Vals.eval_tmp] at r14
        have g17 : ∃ a1_17 c1_17, a.eval (.tmp 17) = .agg #[.int .u8 k', .int .u8 f', .slice a1_17 ys.length c1_17] ∧ Reads W a1_17 ys.length ys := (hdep ⟨6, .data⟩ (by simp) rfl).2 17 rfl
        rw [Vals.eval_tmp] at g17
        obtain ⟨a1_17, c1_17, r17, h17_0⟩ := g17
        refine Vals.wpOp_run ho' (by unfold Region.wanted; simp only []; rw [Vals.yielded_of (d := 13) rfl hgd]; rfl) ?_
        clear hdep hfr ho' hdf hgd hcl
        go_simp
        refine (psame_any k f k' f' p a1_17 n _ c _ zs ys W (HR.out.1.below (HBE.out.trans (hJ.mono HBE.out.size))) h17_0 HR.out.2.1 HR.out.2.2.1 (by have := HR.out.2.2.2.1; omega) (by have := HR.out.2.2.2.2; omega)).mono ?_
        rintro e w' ⟨rfl, hb3⟩
        exact hK _ _ (ChkCum_mono hb3) (hJ.trans (hb3.mono hJ.size)) (fun _ => by show Value.bool _ = Value.bool _; first | rfl | rw [HBB.out])
      | 8, ho, hd =>
        have ho' := ho
        simp only [List.getElem?_toArray, List.getElem?_cons_zero, List.getElem?_cons_succ, Option.some.injEq] at ho hd
        subst ho hd
        have hgd : a.eval (.tmp 13) = .bool false := (hdep ⟨2, .guard⟩ (by simp) rfl).2 13 rfl
        have r18 : a.eval (.tmp 18) = .bool bb := (hdep ⟨7, .data⟩ (by simp) rfl).2 18 rfl
        rw [Vals.eval_tmp] at r18
        refine Vals.wpOp_run ho' (by unfold Region.wanted; simp only []; rw [Vals.yielded_of (d := 13) rfl hgd]; rfl) ?_
        clear hdep hfr ho' hdf hgd hcl
        go_simp
        exact hK _ _ (fun _ _ h => h) hJ (fun _ => rfl)
      | 9, ho, hd =>
        have ho' := ho
        simp only [List.getElem?_toArray, List.getElem?_cons_zero, List.getElem?_cons_succ, Option.some.injEq] at ho hd
        subst ho hd
        have r13 : a.eval (.tmp 13) = .bool false := (hdep ⟨2, .data⟩ (by simp) rfl).2 13 rfl
        rw [Vals.eval_tmp] at r13
        have r19 : a.eval (.tmp 19) = .bool (!bb) := (hdep ⟨8, .data⟩ (by simp) rfl).2 19 rfl
        rw [Vals.eval_tmp] at r19
        refine Vals.wpOp_run ho' rfl ?_
        clear hdep hfr ho' hdf hcl
        go_simp
        exact hK _ _ (fun _ _ h => h) hJ (fun _ => rfl)
      | i + 10, ho, hd => simp at ho
    case fin =>
      intro listed W fq hall hJ hG
      have q0 : fq 11 = .bool true := hG 0 11 rfl
      have q1 : fq 12 = .bool false := hG 1 12 rfl
      have q2 : fq 13 = .bool false := hG 2 13 rfl
      have q3 : fq 14 = .agg #[.int .u8 k, .int .u8 f, .slice p n c] := hG 3 14 rfl
      have q4 : fq 15 = (.func (.func 45) #[] #[]) := hG 4 15 rfl
      have q5 : fq 16 = .int .u32 x0 := hG 5 16 rfl
      obtain ⟨a1_17, c1_17, q6, hq17_0⟩ : ∃ a1_17 c1_17, fq 17 = .agg #[.int .u8 k', .int .u8 f', .slice a1_17 ys.length c1_17] ∧ Reads W a1_17 ys.length ys := hG 6 17 rfl
      have q7 : fq 18 = .bool bb := hG 7 18 rfl
      have q8 : fq 19 = .bool (!bb) := hG 8 19 rfl
      have q9 : fq 20 = .bool (!bb) := hG 9 20 rfl
      clear hG hall
      simp only [Vals.puts, Vals.pairs, List.filterMap_cons, List.filterMap_nil, id, List.map_cons, List.map_nil, List.foldl_cons, List.foldl_nil, q0, q1, q2, q3, q4, q5, q6, q7, q8, q9]
      clear q0 q1 q2 q3 q4 q5 q6 q7 q8 q9
      go_frame

      have hJw := HBE.out.trans (hJ.mono HBE.out.size)
      have HZW := Lib.hid hJw
      clear hJ hJw HC HBE HPUT HR HBB
      cases bb with
      | false =>
        go_wp2
        go_ret2
        exact ⟨.inr ⟨rfl, rfl⟩, HZW.out⟩
      | true =>
        go_wp2
        go_ret2
        exact ⟨.inl ⟨rfl, rfl⟩, HZW.out⟩

/-- What the operations of the drawn region leave behind. -/
def ChkForward (w wE : World) (k f k' f' : Int) (p : Option Addr) (n c : Nat) (ys : List Int) (bb : Bool) (x0 : Int) (q : Option Addr) (qn qc : Nat) (i : Nat) (v : Value) (W : World) : Prop := match i with | 0 => v = .bool true | 1 => v = .bool false | 2 => v = .bool false | 3 => v = .agg #[.int .u8 k, .int .u8 f, .slice p n c] | 4 => v = (.func (.func 34) #[] #[]) | 5 => v = .agg #[.int .u32 x0, .slice q qn qc] | 6 => ∃ a1 c1, v = .agg #[.int .u8 k', .int .u8 f', .slice a1 ys.length c1] ∧ Reads W a1 ys.length ys | 7 => v = .bool bb | 8 => v = .bool (!bb) | 9 => v = .bool (!bb) | _ => True
theorem ChkForward_mono {w wE : World} {k f k' f' : Int} {p : Option Addr} {n c : Nat} {ys : List Int} {bb : Bool} {x0 : Int} {q : Option Addr} {qn qc : Nat} {W W' : World} (hb : Below W.heap.size W W') (j : Nat) (x : Value) (h : ChkForward w wE k f k' f' p n c ys bb x0 q qn qc j x W) : ChkForward w wE k f k' f' p n c ys bb x0 q qn qc j x W' := by
  unfold ChkForward at h ⊢
  split at h <;> try exact h
  · obtain ⟨a1, c1, e0, h0_0⟩ := h
    exact ⟨a1, c1, e0, h0_0.below hb⟩

set_option maxRecDepth 100000 in
set_option maxHeartbeats 3200000 in
theorem checkedForward (k f k' f' : Int) (p : Option Addr) (n c : Nat) (zs ys : List Int) (v : Bool) (x0 : Int) (q : Option Addr) (qn qc : Nat) (w : World) (hr : Reads w p n zs) (hz : Byt zs) (hy : Byt ys) (hn : n ≤ 140737488355328) (hm : ys.length ≤ 140737488355328)
    (hput : ∀ W, Below w.heap.size w W → Calls Try.prog 34 #[.agg #[.int .u32 x0, .slice q qn qc]] W fun e w' => Puts W k' f' ys e w') :
    Calls Try.prog 67 #[.agg #[.int .u8 k, .int .u8 f, .slice p n c], .agg #[.int .u32 x0, .slice q qn qc], .bool v, (.func (.func 34) #[] #[])] w fun e w' =>
      Chose (v && eqC k f zs k' f' ys) (.agg #[.int .u32 x0, .slice q qn qc]) (.agg #[.int .u32 0, .slice none 0 0]) e ∧ Below w.heap.size w w' := by
  obtain ⟨wa, hwa⟩ : ∃ wa, w.alloc (.cells #[.int .u8 k, .int .u8 f, .slice p n c] 28) = wa := ⟨_, rfl⟩
  have hba : Below w.heap.size w wa := by rw [← hwa]; exact chunkBelow w k f _
  have hsa : wa.heap.size = w.heap.size + 1 := by rw [← hwa]; simp
  have hca : Arr wa w.heap.size 28 [.int .u8 k, .int .u8 f, .slice p n c] := by rw [← hwa]; exact chunkBox w k f _
  obtain ⟨wb, hwb⟩ : ∃ wb, wa.alloc (.cells #[.int .u32 x0, .slice q qn qc] 56) = wb := ⟨_, rfl⟩
  have hbb : Below wa.heap.size wa wb := by rw [← hwb]; exact (Below.refl _ _).alloc (Nat.le_refl _) _
  have hsb : wb.heap.size = w.heap.size + 2 := by rw [← hwb]; simp; omega
  have hvb : Arr wb (w.heap.size + 1) 56 [.int .u32 x0, .slice q qn qc] := by rw [← hwb, ← hsa]; exact arr_new _ _ _
  obtain ⟨wE, hwE⟩ : ∃ wE, wb.alloc (.cells #[.int .u32 0, .slice none 0 0] 56) = wE := ⟨_, rfl⟩
  have hbE : Below wb.heap.size wb wE := by rw [← hwE]; exact (Below.refl _ _).alloc (Nat.le_refl _) _
  have hzE : Arr wE (w.heap.size + 2) 56 [.int .u32 0, .slice none 0 0] := by rw [← hwE, ← hsb]; exact arr_new _ _ _
  have HBE := Lib.hid (hba.trans ((hbb.trans (hbE.mono hbb.size)).mono hba.size))
  have HC := Lib.hid ((hca.keep hbb).keep hbE)
  have HV := Lib.hid (hvb.keep hbE)
  have HZ := Lib.hid hzE
  obtain ⟨bb, hbb'⟩ : ∃ bb, bb = eqC k f zs k' f' ys := ⟨_, rfl⟩
  rw [← hbb']
  have HBB := Lib.hid hbb'
  have HR := Lib.hid (And.intro hr (And.intro hz (And.intro hy (And.intro hn hm))))
  have HPUT := Lib.hid hput
  clear hr hz hy hn hm hput hbb' hba hca hbb hvb hbE hzE
  go_enter Try.func67, Try.ntmps67
  cases v with
  | false =>
    clear HBB HR HPUT
    go_wp2_with fail
    go_quiet (fail)
    have HZW := Lib.hid (And.intro (show Arr (wE.drewN nq) _ _ _ from HZ.out) (show Below w.heap.size w (wE.drewN nq) from below_drewN HBE.out nq))
    generalize wE.drewN nq = wq at HZW ⊢
    have hbn : Below wq.heap.size wq (wq.alloc (.cells #[.int .u32 0, .slice none 0 0] 56)) := (Below.refl _ _).alloc (Nat.le_refl _) _
    have hzn := HZW.out.1.keep hbn
    have hnn : Arr (wq.alloc (.cells #[.int .u32 0, .slice none 0 0] 56)) wq.heap.size 56 [.int .u32 0, .slice none 0 0] := arr_new _ _ _
    have n0 := hnn.cell (i := 0) rfl
    have n1 := hnn.cell (i := 1) rfl
    have fr0 := hzn.free 0
    have fr1 := hzn.free 1
    have y0 := hzn.cell (i := 0) rfl
    have y1 := hzn.cell (i := 1) rfl
    have hA3 := ((hzn.set 0 (.int .u32 0)).set 1 (.slice none 0 0))
    have hB3 := (((HZW.out.2.trans (hbn.mono HZW.out.2.size)).setCell (p := ⟨w.heap.size + 2, 0, none⟩) (by simp) (.int .u32 0)).setCell (p := ⟨w.heap.size + 2, 1, none⟩) (by simp) (.slice none 0 0))
    obtain ⟨W3, hW3⟩ : ∃ W3, (((wq.alloc (.cells #[.int .u32 0, .slice none 0 0] 56)).setCell ⟨w.heap.size + 2, 0, none⟩ (.int .u32 0)).setCell ⟨w.heap.size + 2, 1, none⟩ (.slice none 0 0)) = W3 := ⟨_, rfl⟩
    rw [hW3] at hA3 hB3
    have z0 := hA3.cell (i := 0) rfl
    have z1 := hA3.cell (i := 1) rfl
    have HE := Lib.hid hB3
    clear hbn hzn hnn hA3 hB3
    go_wp2
    exact bodyPost_ret (by simp [results, Try.results67, go_sem, z0, z1] <;> rfl) rfl ⟨.inr ⟨rfl, rfl⟩, HE.out⟩
  | true =>
    simp only [Bool.true_and]
    go_wp2_with fail
    refine wp_region_any (by kernel_rfl) ?_
    refine Vals.wpAny_goodW (ChkForward w wE k f k' f' p n c ys bb x0 q qn qc) (fun _ => (fun W => Below wE.heap.size wE W)) [some 11, some 12, some 13, some 14, some 15, some 16, some 17, some 18, some 19, some 20] 23 _ _ rfl (by kernel_rfl) (by kernel_rfl) (by decide) ?step ?fin (Below.refl _ _).drew
    case step =>
      intro i o d ho hd listed a W hls hun hcl hJ hdf hdep hfr K hK
      match i, ho, hd with
      | 0, ho, hd =>
        have ho' := ho
        simp only [List.getElem?_toArray, List.getElem?_cons_zero, Option.some.injEq] at ho hd
        subst ho hd
        have r2 : a.eval (.tmp 2) = .bool true := hfr 2 (by decide)
        rw [Vals.eval_tmp] at r2
        refine Vals.wpOp_run ho' rfl ?_
        clear hdep hfr ho' hdf hcl
        go_simp
        exact hK _ _ (fun _ _ h => h) hJ (fun _ => rfl)
      | 1, ho, hd =>
        have ho' := ho
        simp only [List.getElem?_toArray, List.getElem?_cons_zero, List.getElem?_cons_succ, Option.some.injEq] at ho hd
        subst ho hd
        have r11 : a.eval (.tmp 11) = .bool true := (hdep ⟨0, .data⟩ (by simp) rfl).2 11 rfl
        rw [Vals.eval_tmp] at r11
        refine Vals.wpOp_run ho' rfl ?_
        clear hdep hfr ho' hdf hcl
        go_simp
        exact hK _ _ (fun _ _ h => h) hJ (fun _ => rfl)
      | 2, ho, hd =>
        have ho' := ho
        simp only [List.getElem?_toArray, List.getElem?_cons_zero, List.getElem?_cons_succ, Option.some.injEq] at ho hd
        subst ho hd
        have r12 : a.eval (.tmp 12) = .bool false := (hdep ⟨1, .data⟩ (by simp) rfl).2 12 rfl
        rw [Vals.eval_tmp] at r12
        refine Vals.wpOp_run ho' rfl ?_
        clear hdep hfr ho' hdf hcl
        go_simp
        exact hK _ _ (fun _ _ h => h) hJ (fun _ => rfl)
      | 3, ho, hd =>
        have ho' := ho
        simp only [List.getElem?_toArray, List.getElem?_cons_zero, List.getElem?_cons_succ, Option.some.injEq] at ho hd
        subst ho hd
        have hgd : a.eval (.tmp 13) = .bool false := (hdep ⟨2, .guard⟩ (by simp) rfl).2 13 rfl
        have r4 : a.eval (.tmp 4) = .pointer (some ⟨w.heap.size, 0, none⟩) := hfr 4 (by decide)
        rw [Vals.eval_tmp] at r4
        have c0 := (HC.out.keep hJ).cell (i := 0) rfl
        have c1 := (HC.out.keep hJ).cell (i := 1) rfl
        have c2 := (HC.out.keep hJ).cell (i := 2) rfl
        refine Vals.wpOp_run ho' (by unfold Region.wanted; simp only []; rw [Vals.yielded_of (d := 13) rfl hgd]; rfl) ?_
        clear hdep hfr ho' hdf hgd hcl
        go_simp
        exact hK _ _ (fun _ _ h => h) hJ (fun _ => rfl)
      | 4, ho, hd =>
        have ho' := ho
        simp only [List.getElem?_toArray, List.getElem?_cons_zero, List.getElem?_cons_succ, Option.some.injEq] at ho hd
        subst ho hd
        have hgd : a.eval (.tmp 13) = .bool false := (hdep ⟨2, .guard⟩ (by simp) rfl).2 13 rfl
        have r3 : a.eval (.tmp 3) = (.func (.func 34) #[] #[]) := hfr 3 (by decide)
        rw [Vals.eval_tmp] at r3
        refine Vals.wpOp_run ho' (by unfold Region.wanted; simp only []; rw [Vals.yielded_of (d := 13) rfl hgd]; rfl) ?_
        clear hdep hfr ho' hdf hgd hcl
        go_simp
        exact hK _ _ (fun _ _ h => h) hJ (fun _ => rfl)
      | 5, ho, hd =>
        have ho' := ho
        simp only [List.getElem?_toArray, List.getElem?_cons_zero, List.getElem?_cons_succ, Option.some.injEq] at ho hd
        subst ho hd
        have hgd : a.eval (.tmp 13) = .bool false := (hdep ⟨2, .guard⟩ (by simp) rfl).2 13 rfl
        have r5 : a.eval (.tmp 5) = .pointer (some ⟨w.heap.size + 1, 0, none⟩) := hfr 5 (by decide)
        rw [Vals.eval_tmp] at r5
        have c0 := (HV.out.keep hJ).cell (i := 0) rfl
        have c1 := (HV.out.keep hJ).cell (i := 1) rfl
        refine Vals.wpOp_run ho' (by unfold Region.wanted; simp only []; rw [Vals.yielded_of (d := 13) rfl hgd]; rfl) ?_
        clear hdep hfr ho' hdf hgd hcl
        go_simp
        exact hK _ _ (fun _ _ h => h) hJ (fun _ => rfl)
      | 6, ho, hd =>
        have ho' := ho
        simp only [List.getElem?_toArray, List.getElem?_cons_zero, List.getElem?_cons_succ, Option.some.injEq] at ho hd
        subst ho hd
        have hgd : a.eval (.tmp 13) = .bool false := (hdep ⟨2, .guard⟩ (by simp) rfl).2 13 rfl
        have r15 : a.eval (.tmp 15) = (.func (.func 34) #[] #[]) := (hdep ⟨4, .data⟩ (by simp) rfl).2 15 rfl
        rw [Vals.eval_tmp] at r15
        have r16 : a.eval (.tmp 16) = .agg #[.int .u32 x0, .slice q qn qc] := (hdep ⟨5, .data⟩ (by simp) rfl).2 16 rfl
        rw [Vals.eval_tmp] at r16
        refine Vals.wpOp_run ho' (by unfold Region.wanted; simp only []; rw [Vals.yielded_of (d := 13) rfl hgd]; rfl) ?_
        clear hdep hfr ho' hdf hgd hcl
        go_simp
        refine (HPUT.out W (HBE.out.trans (hJ.mono HBE.out.size))).mono ?_
        rintro e w' ⟨a1, c1, rfl, hb3, hr3⟩
        exact hK _ _ (ChkForward_mono hb3) (hJ.trans (hb3.mono hJ.size)) (fun _ => ⟨_, _, rfl, hr3.reads⟩)
      | 7, ho, hd =>
        have ho' := ho
        simp only [List.getElem?_toArray, List.getElem?_cons_zero, List.getElem?_cons_succ, Option.some.injEq] at ho hd
        subst ho hd
        have hgd : a.eval (.tmp 13) = .bool false := (hdep ⟨2, .guard⟩ (by simp) rfl).2 13 rfl
        have r14 : a.eval (.tmp 14) = .agg #[.int .u8 k, .int .u8 f, .slice p n c] := (hdep ⟨3, .data⟩ (by simp) rfl).2 14 rfl
        rw [Vals.eval_tmp] at r14
        have g17 : ∃ a1_17 c1_17, a.eval (.tmp 17) = .agg #[.int .u8 k', .int .u8 f', .slice a1_17 ys.length c1_17] ∧ Reads W a1_17 ys.length ys := (hdep ⟨6, .data⟩ (by simp) rfl).2 17 rfl
        rw [Vals.eval_tmp] at g17
        obtain ⟨a1_17, c1_17, r17, h17_0⟩ := g17
        refine Vals.wpOp_run ho' (by unfold Region.wanted; simp only []; rw [Vals.yielded_of (d := 13) rfl hgd]; rfl) ?_
        clear hdep hfr ho' hdf hgd hcl
        go_simp
        refine (psame_any k f k' f' p a1_17 n _ c _ zs ys W (HR.out.1.below (HBE.out.trans (hJ.mono HBE.out.size))) h17_0 HR.out.2.1 HR.out.2.2.1 (by have := HR.out.2.2.2.1; omega) (by have := HR.out.2.2.2.2; omega)).mono ?_
        rintro e w' ⟨rfl, hb3⟩
        exact hK _ _ (ChkForward_mono hb3) (hJ.trans (hb3.mono hJ.size)) (fun _ => by show Value.bool _ = Value.bool _; first | rfl | rw [HBB.out])
      | 8, ho, hd =>
        have ho' := ho
        simp only [List.getElem?_toArray, List.getElem?_cons_zero, List.getElem?_cons_succ, Option.some.injEq] at ho hd
        subst ho hd
        have hgd : a.eval (.tmp 13) = .bool false := (hdep ⟨2, .guard⟩ (by simp) rfl).2 13 rfl
        have r18 : a.eval (.tmp 18) = .bool bb := (hdep ⟨7, .data⟩ (by simp) rfl).2 18 rfl
        rw [Vals.eval_tmp] at r18
        refine Vals.wpOp_run ho' (by unfold Region.wanted; simp only []; rw [Vals.yielded_of (d := 13) rfl hgd]; rfl) ?_
        clear hdep hfr ho' hdf hgd hcl
        go_simp
        exact hK _ _ (fun _ _ h => h) hJ (fun _ => rfl)
      | 9, ho, hd =>
        have ho' := ho
        simp only [List.getElem?_toArray, List.getElem?_cons_zero, List.getElem?_cons_succ, Option.some.injEq] at ho hd
        subst ho hd
        have r13 : a.eval (.tmp 13) = .bool false := (hdep ⟨2, .data⟩ (by simp) rfl).2 13 rfl
        rw [Vals.eval_tmp] at r13
        have r19 : a.eval (.tmp 19) = .bool (!bb) := (hdep ⟨8, .data⟩ (by simp) rfl).2 19 rfl
        rw [Vals.eval_tmp] at r19
        refine Vals.wpOp_run ho' rfl ?_
        clear hdep hfr ho' hdf hcl
        go_simp
        exact hK _ _ (fun _ _ h => h) hJ (fun _ => rfl)
      | i + 10, ho, hd => simp at ho
    case fin =>
      intro listed W fq hall hJ hG
      have q0 : fq 11 = .bool true := hG 0 11 rfl
      have q1 : fq 12 = .bool false := hG 1 12 rfl
      have q2 : fq 13 = .bool false := hG 2 13 rfl
      have q3 : fq 14 = .agg #[.int .u8 k, .int .u8 f, .slice p n c] := hG 3 14 rfl
      have q4 : fq 15 = (.func (.func 34) #[] #[]) := hG 4 15 rfl
      have q5 : fq 16 = .agg #[.int .u32 x0, .slice q qn qc] := hG 5 16 rfl
      obtain ⟨a1_17, c1_17, q6, hq17_0⟩ : ∃ a1_17 c1_17, fq 17 = .agg #[.int .u8 k', .int .u8 f', .slice a1_17 ys.length c1_17] ∧ Reads W a1_17 ys.length ys := hG 6 17 rfl
      have q7 : fq 18 = .bool bb := hG 7 18 rfl
      have q8 : fq 19 = .bool (!bb) := hG 8 19 rfl
      have q9 : fq 20 = .bool (!bb) := hG 9 20 rfl
      clear hG hall
      simp only [Vals.puts, Vals.pairs, List.filterMap_cons, List.filterMap_nil, id, List.map_cons, List.map_nil, List.foldl_cons, List.foldl_nil, q0, q1, q2, q3, q4, q5, q6, q7, q8, q9]
      clear q0 q1 q2 q3 q4 q5 q6 q7 q8 q9
      go_frame

      have hJw := HBE.out.trans (hJ.mono HBE.out.size)
      have HZW := Lib.hid (And.intro (HZ.out.keep hJ) hJw)
      have HVW := Lib.hid (HV.out.keep hJ)
      clear hJ hJw HZ HV HC HBE HPUT HR HBB
      cases bb with
      | false =>
        have hbn : Below W.heap.size W (W.alloc (.cells #[.int .u32 0, .slice none 0 0] 56)) := (Below.refl _ _).alloc (Nat.le_refl _) _
        have hzn := HZW.out.1.keep hbn
        have hnn : Arr (W.alloc (.cells #[.int .u32 0, .slice none 0 0] 56)) W.heap.size 56 [.int .u32 0, .slice none 0 0] := arr_new _ _ _
        have n0 := hnn.cell (i := 0) rfl
        have n1 := hnn.cell (i := 1) rfl
        have fr0 := hzn.free 0
        have fr1 := hzn.free 1
        have y0 := hzn.cell (i := 0) rfl
        have y1 := hzn.cell (i := 1) rfl
        have hA3 := ((hzn.set 0 (.int .u32 0)).set 1 (.slice none 0 0))
        have hB3 := (((HZW.out.2.trans (hbn.mono HZW.out.2.size)).setCell (p := ⟨w.heap.size + 2, 0, none⟩) (by simp) (.int .u32 0)).setCell (p := ⟨w.heap.size + 2, 1, none⟩) (by simp) (.slice none 0 0))
        obtain ⟨W3, hW3⟩ : ∃ W3, (((W.alloc (.cells #[.int .u32 0, .slice none 0 0] 56)).setCell ⟨w.heap.size + 2, 0, none⟩ (.int .u32 0)).setCell ⟨w.heap.size + 2, 1, none⟩ (.slice none 0 0)) = W3 := ⟨_, rfl⟩
        rw [hW3] at hA3 hB3
        have z0 := hA3.cell (i := 0) rfl
        have z1 := hA3.cell (i := 1) rfl
        have HE := Lib.hid hB3
        clear hbn hzn hnn hA3 hB3
        go_wp2
        exact bodyPost_ret (by simp [results, Try.results67, go_sem, z0, z1] <;> rfl) rfl ⟨.inr ⟨rfl, rfl⟩, HE.out⟩
      | true =>
        have hzn := HZW.out.1
        have hvn := HVW.out
        have n0 := hvn.cell (i := 0) rfl
        have n1 := hvn.cell (i := 1) rfl
        have fr0 := hzn.free 0
        have fr1 := hzn.free 1
        have y0 := hzn.cell (i := 0) rfl
        have y1 := hzn.cell (i := 1) rfl
        have hA3 := ((hzn.set 0 (.int .u32 x0)).set 1 (.slice q qn qc))
        have hB3 := ((HZW.out.2.setCell (p := ⟨w.heap.size + 2, 0, none⟩) (by simp) (.int .u32 x0)).setCell (p := ⟨w.heap.size + 2, 1, none⟩) (by simp) (.slice q qn qc))
        obtain ⟨W3, hW3⟩ : ∃ W3, ((W.setCell ⟨w.heap.size + 2, 0, none⟩ (.int .u32 x0)).setCell ⟨w.heap.size + 2, 1, none⟩ (.slice q qn qc)) = W3 := ⟨_, rfl⟩
        rw [hW3] at hA3 hB3
        have z0 := hA3.cell (i := 0) rfl
        have z1 := hA3.cell (i := 1) rfl
        have HE := Lib.hid hB3
        clear hzn hvn hA3 hB3
        go_wp2
        exact bodyPost_ret (by simp [results, Try.results67, go_sem, z0, z1] <;> rfl) rfl ⟨.inl ⟨rfl, rfl⟩, HE.out⟩

/-- What the operations of the drawn region leave behind. -/
def ChkTime (w wE : World) (k f k' f' : Int) (p : Option Addr) (n c : Nat) (ys : List Int) (bb : Bool) (cp : Addr) (x0 : Int) (i : Nat) (v : Value) (W : World) : Prop := match i with | 0 => v = .bool true | 1 => v = .bool false | 2 => v = .bool false | 3 => v = .agg #[.int .u8 k, .int .u8 f, .slice p n c] | 4 => v = (.func (.func 69) #[] #[.pointer (some cp)]) | 5 => v = .int .i64 x0 | 6 => ∃ a1 c1, v = .agg #[.int .u8 k', .int .u8 f', .slice a1 ys.length c1] ∧ Reads W a1 ys.length ys | 7 => v = .bool bb | 8 => v = .bool (!bb) | 9 => v = .bool (!bb) | _ => True
theorem ChkTime_mono {w wE : World} {k f k' f' : Int} {p : Option Addr} {n c : Nat} {ys : List Int} {bb : Bool} {cp : Addr} {x0 : Int} {W W' : World} (hb : Below W.heap.size W W') (j : Nat) (x : Value) (h : ChkTime w wE k f k' f' p n c ys bb cp x0 j x W) : ChkTime w wE k f k' f' p n c ys bb cp x0 j x W' := by
  unfold ChkTime at h ⊢
  split at h <;> try exact h
  · obtain ⟨a1, c1, e0, h0_0⟩ := h
    exact ⟨a1, c1, e0, h0_0.below hb⟩

set_option maxRecDepth 100000 in
set_option maxHeartbeats 3200000 in
theorem checkedTime (cp : Addr) (k f k' f' : Int) (p : Option Addr) (n c : Nat) (zs ys : List Int) (v : Bool) (x0 : Int) (w : World) (hr : Reads w p n zs) (hz : Byt zs) (hy : Byt ys) (hn : n ≤ 140737488355328) (hm : ys.length ≤ 140737488355328)
    (hput : ∀ W, Below w.heap.size w W → Calls Try.prog 69 #[.int .i64 x0, .pointer (some cp)] W fun e w' => Puts W k' f' ys e w') :
    Calls Try.prog 68 #[.agg #[.int .u8 k, .int .u8 f, .slice p n c], .int .i64 x0, .bool v, (.func (.func 69) #[] #[.pointer (some cp)])] w fun e w' =>
      Chose (v && eqC k f zs k' f' ys) (.int .i64 x0) (.int .i64 0) e ∧ Below w.heap.size w w' := by
  obtain ⟨wa, hwa⟩ : ∃ wa, w.alloc (.cells #[.int .u8 k, .int .u8 f, .slice p n c] 28) = wa := ⟨_, rfl⟩
  have hba : Below w.heap.size w wa := by rw [← hwa]; exact chunkBelow w k f _
  have hsa : wa.heap.size = w.heap.size + 1 := by rw [← hwa]; simp
  have hca : Arr wa w.heap.size 28 [.int .u8 k, .int .u8 f, .slice p n c] := by rw [← hwa]; exact chunkBox w k f _
  obtain ⟨wE, hwE⟩ : ∃ wE, wE = wa := ⟨_, rfl⟩
  have HBE := Lib.hid (show Below w.heap.size w wE from by rw [hwE]; exact hba)
  have HC := Lib.hid (show Arr wE w.heap.size 28 [.int .u8 k, .int .u8 f, .slice p n c] from by rw [hwE]; exact hca)
  obtain ⟨bb, hbb'⟩ : ∃ bb, bb = eqC k f zs k' f' ys := ⟨_, rfl⟩
  rw [← hbb']
  have HBB := Lib.hid hbb'
  have HR := Lib.hid (And.intro hr (And.intro hz (And.intro hy (And.intro hn hm))))
  have HPUT := Lib.hid hput
  clear hr hz hy hn hm hput hbb' hba hca
  go_enter Try.func68, Try.ntmps68
  cases v with
  | false =>
    clear HBB HR HPUT
    go_wp2_with fail
    go_quiet (fail)
    have HZW := Lib.hid (show Below w.heap.size w (wE.drewN nq) from below_drewN HBE.out nq)
    try rw [hwE] at HZW
    go_wp2
    go_ret2
    exact ⟨.inr ⟨rfl, rfl⟩, HZW.out⟩
  | true =>
    simp only [Bool.true_and]
    go_wp2_with fail
    rw [← hwE]
    refine wp_region_any (by kernel_rfl) ?_
    refine Vals.wpAny_goodW (ChkTime w wE k f k' f' p n c ys bb cp x0) (fun _ => (fun W => Below wE.heap.size wE W)) [some 11, some 12, some 13, some 14, some 15, some 16, some 17, some 18, some 19, some 20] 23 _ _ rfl (by kernel_rfl) (by kernel_rfl) (by decide) ?step ?fin (Below.refl _ _).drew
    case step =>
      intro i o d ho hd listed a W hls hun hcl hJ hdf hdep hfr K hK
      match i, ho, hd with
      | 0, ho, hd =>
        have ho' := ho
        simp only [List.getElem?_toArray, List.getElem?_cons_zero, Option.some.injEq] at ho hd
        subst ho hd
        have r2 : a.eval (.tmp 2) = .bool true := hfr 2 (by decide)
        rw [Vals.eval_tmp] at r2
        refine Vals.wpOp_run ho' rfl ?_
        clear hdep hfr ho' hdf hcl
        go_simp
        exact hK _ _ (fun _ _ h => h) hJ (fun _ => rfl)
      | 1, ho, hd =>
        have ho' := ho
        simp only [List.getElem?_toArray, List.getElem?_cons_zero, List.getElem?_cons_succ, Option.some.injEq] at ho hd
        subst ho hd
        have r11 : a.eval (.tmp 11) = .bool true := (hdep ⟨0, .data⟩ (by simp) rfl).2 11 rfl
        rw [Vals.eval_tmp] at r11
        refine Vals.wpOp_run ho' rfl ?_
        clear hdep hfr ho' hdf hcl
        go_simp
        exact hK _ _ (fun _ _ h => h) hJ (fun _ => rfl)
      | 2, ho, hd =>
        have ho' := ho
        simp only [List.getElem?_toArray, List.getElem?_cons_zero, List.getElem?_cons_succ, Option.some.injEq] at ho hd
        subst ho hd
        have r12 : a.eval (.tmp 12) = .bool false := (hdep ⟨1, .data⟩ (by simp) rfl).2 12 rfl
        rw [Vals.eval_tmp] at r12
        refine Vals.wpOp_run ho' rfl ?_
        clear hdep hfr ho' hdf hcl
        go_simp
        exact hK _ _ (fun _ _ h => h) hJ (fun _ => rfl)
      | 3, ho, hd =>
        have ho' := ho
        simp only [List.getElem?_toArray, List.getElem?_cons_zero, List.getElem?_cons_succ, Option.some.injEq] at ho hd
        subst ho hd
        have hgd : a.eval (.tmp 13) = .bool false := (hdep ⟨2, .guard⟩ (by simp) rfl).2 13 rfl
        have r4 : a.eval (.tmp 4) = .pointer (some ⟨w.heap.size, 0, none⟩) := hfr 4 (by decide)
        rw [Vals.eval_tmp] at r4
        have c0 := (HC.out.keep hJ).cell (i := 0) rfl
        have c1 := (HC.out.keep hJ).cell (i := 1) rfl
        have c2 := (HC.out.keep hJ).cell (i := 2) rfl
        refine Vals.wpOp_run ho' (by unfold Region.wanted; simp only []; rw [Vals.yielded_of (d := 13) rfl hgd]; rfl) ?_
        clear hdep hfr ho' hdf hgd hcl
        go_simp
        exact hK _ _ (fun _ _ h => h) hJ (fun _ => rfl)
      | 4, ho, hd =>
        have ho' := ho
        simp only [List.getElem?_toArray, List.getElem?_cons_zero, List.getElem?_cons_succ, Option.some.injEq] at ho hd
        subst ho hd
        have hgd : a.eval (.tmp 13) = .bool false := (hdep ⟨2, .guard⟩ (by simp) rfl).2 13 rfl
        have r3 : a.eval (.tmp 3) = (.func (.func 69) #[] #[.pointer (some cp)]) := hfr 3 (by decide)
        rw [Vals.eval_tmp] at r3
        refine Vals.wpOp_run ho' (by unfold Region.wanted; simp only []; rw [Vals.yielded_of (d := 13) rfl hgd]; rfl) ?_
        clear hdep hfr ho' hdf hgd hcl
        go_simp
        exact hK _ _ (fun _ _ h => h) hJ (fun _ => rfl)
      | 5, ho, hd =>
        have ho' := ho
        simp only [List.getElem?_toArray, List.getElem?_cons_zero, List.getElem?_cons_succ, Option.some.injEq] at ho hd
        subst ho hd
        have hgd : a.eval (.tmp 13) = .bool false := (hdep ⟨2, .guard⟩ (by simp) rfl).2 13 rfl
        have r1 : a.eval (.tmp 1) = .int .i64 x0 := hfr 1 (by decide)
        rw [Vals.eval_tmp] at r1
        refine Vals.wpOp_run ho' (by unfold Region.wanted; simp only []; rw [Vals.yielded_of (d := 13) rfl hgd]; rfl) ?_
        clear hdep hfr ho' hdf hgd hcl
        go_simp
        exact hK _ _ (fun _ _ h => h) hJ (fun _ => rfl)
      | 6, ho, hd =>
        have ho' := ho
        simp only [List.getElem?_toArray, List.getElem?_cons_zero, List.getElem?_cons_succ, Option.some.injEq] at ho hd
        subst ho hd
        have hgd : a.eval (.tmp 13) = .bool false := (hdep ⟨2, .guard⟩ (by simp) rfl).2 13 rfl
        have r15 : a.eval (.tmp 15) = (.func (.func 69) #[] #[.pointer (some cp)]) := (hdep ⟨4, .data⟩ (by simp) rfl).2 15 rfl
        rw [Vals.eval_tmp] at r15
        have r16 : a.eval (.tmp 16) = .int .i64 x0 := (hdep ⟨5, .data⟩ (by simp) rfl).2 16 rfl
        rw [Vals.eval_tmp] at r16
        refine Vals.wpOp_run ho' (by unfold Region.wanted; simp only []; rw [Vals.yielded_of (d := 13) rfl hgd]; rfl) ?_
        clear hdep hfr ho' hdf hgd hcl
        go_simp
        refine (HPUT.out W (HBE.out.trans (hJ.mono HBE.out.size))).mono ?_
        rintro e w' ⟨a1, c1, rfl, hb3, hr3⟩
        exact hK _ _ (ChkTime_mono hb3) (hJ.trans (hb3.mono hJ.size)) (fun _ => ⟨_, _, rfl, hr3.reads⟩)
      | 7, ho, hd =>
        have ho' := ho
        simp only [List.getElem?_toArray, List.getElem?_cons_zero, List.getElem?_cons_succ, Option.some.injEq] at ho hd
        subst ho hd
        have hgd : a.eval (.tmp 13) = .bool false := (hdep ⟨2, .guard⟩ (by simp) rfl).2 13 rfl
        have r14 : a.eval (.tmp 14) = .agg #[.int .u8 k, .int .u8 f, .slice p n c] := (hdep ⟨3, .data⟩ (by simp) rfl).2 14 rfl
        rw [Vals.eval_tmp] at r14
        have g17 : ∃ a1_17 c1_17, a.eval (.tmp 17) = .agg #[.int .u8 k', .int .u8 f', .slice a1_17 ys.length c1_17] ∧ Reads W a1_17 ys.length ys := (hdep ⟨6, .data⟩ (by simp) rfl).2 17 rfl
        rw [Vals.eval_tmp] at g17
        obtain ⟨a1_17, c1_17, r17, h17_0⟩ := g17
        refine Vals.wpOp_run ho' (by unfold Region.wanted; simp only []; rw [Vals.yielded_of (d := 13) rfl hgd]; rfl) ?_
        clear hdep hfr ho' hdf hgd hcl
        go_simp
        refine (psame_any k f k' f' p a1_17 n _ c _ zs ys W (HR.out.1.below (HBE.out.trans (hJ.mono HBE.out.size))) h17_0 HR.out.2.1 HR.out.2.2.1 (by have := HR.out.2.2.2.1; omega) (by have := HR.out.2.2.2.2; omega)).mono ?_
        rintro e w' ⟨rfl, hb3⟩
        exact hK _ _ (ChkTime_mono hb3) (hJ.trans (hb3.mono hJ.size)) (fun _ => by show Value.bool _ = Value.bool _; first | rfl | rw [HBB.out])
      | 8, ho, hd =>
        have ho' := ho
        simp only [List.getElem?_toArray, List.getElem?_cons_zero, List.getElem?_cons_succ, Option.some.injEq] at ho hd
        subst ho hd
        have hgd : a.eval (.tmp 13) = .bool false := (hdep ⟨2, .guard⟩ (by simp) rfl).2 13 rfl
        have r18 : a.eval (.tmp 18) = .bool bb := (hdep ⟨7, .data⟩ (by simp) rfl).2 18 rfl
        rw [Vals.eval_tmp] at r18
        refine Vals.wpOp_run ho' (by unfold Region.wanted; simp only []; rw [Vals.yielded_of (d := 13) rfl hgd]; rfl) ?_
        clear hdep hfr ho' hdf hgd hcl
        go_simp
        exact hK _ _ (fun _ _ h => h) hJ (fun _ => rfl)
      | 9, ho, hd =>
        have ho' := ho
        simp only [List.getElem?_toArray, List.getElem?_cons_zero, List.getElem?_cons_succ, Option.some.injEq] at ho hd
        subst ho hd
        have r13 : a.eval (.tmp 13) = .bool false := (hdep ⟨2, .data⟩ (by simp) rfl).2 13 rfl
        rw [Vals.eval_tmp] at r13
        have r19 : a.eval (.tmp 19) = .bool (!bb) := (hdep ⟨8, .data⟩ (by simp) rfl).2 19 rfl
        rw [Vals.eval_tmp] at r19
        refine Vals.wpOp_run ho' rfl ?_
        clear hdep hfr ho' hdf hcl
        go_simp
        exact hK _ _ (fun _ _ h => h) hJ (fun _ => rfl)
      | i + 10, ho, hd => simp at ho
    case fin =>
      intro listed W fq hall hJ hG
      have q0 : fq 11 = .bool true := hG 0 11 rfl
      have q1 : fq 12 = .bool false := hG 1 12 rfl
      have q2 : fq 13 = .bool false := hG 2 13 rfl
      have q3 : fq 14 = .agg #[.int .u8 k, .int .u8 f, .slice p n c] := hG 3 14 rfl
      have q4 : fq 15 = (.func (.func 69) #[] #[.pointer (some cp)]) := hG 4 15 rfl
      have q5 : fq 16 = .int .i64 x0 := hG 5 16 rfl
      obtain ⟨a1_17, c1_17, q6, hq17_0⟩ : ∃ a1_17 c1_17, fq 17 = .agg #[.int .u8 k', .int .u8 f', .slice a1_17 ys.length c1_17] ∧ Reads W a1_17 ys.length ys := hG 6 17 rfl
      have q7 : fq 18 = .bool bb := hG 7 18 rfl
      have q8 : fq 19 = .bool (!bb) := hG 8 19 rfl
      have q9 : fq 20 = .bool (!bb) := hG 9 20 rfl
      clear hG hall
      simp only [Vals.puts, Vals.pairs, List.filterMap_cons, List.filterMap_nil, id, List.map_cons, List.map_nil, List.foldl_cons, List.foldl_nil, q0, q1, q2, q3, q4, q5, q6, q7, q8, q9]
      clear q0 q1 q2 q3 q4 q5 q6 q7 q8 q9
      go_frame

      have hJw := HBE.out.trans (hJ.mono HBE.out.size)
      have HZW := Lib.hid hJw
      clear hJ hJw HC HBE HPUT HR HBB
      cases bb with
      | false =>
        go_wp2
        go_ret2
        exact ⟨.inr ⟨rfl, rfl⟩, HZW.out⟩
      | true =>
        go_wp2
        go_ret2
        exact ⟨.inl ⟨rfl, rfl⟩, HZW.out⟩

/-- What the operations of the drawn region leave behind. -/
def ChkSack (w wE : World) (k f k' f' : Int) (p : Option Addr) (n c : Nat) (ys : List Int) (bb : Bool) (x0 x1 : Int) (q : Option Addr) (qn qc : Nat) (q' : Option Addr) (qn' qc' : Nat) (i : Nat) (v : Value) (W : World) : Prop := match i with | 0 => v = .bool true | 1 => v = .bool false | 2 => v = .bool false | 3 => v = .agg #[.int .u8 k, .int .u8 f, .slice p n c] | 4 => v = (.func (.func 29) #[] #[]) | 5 => v = .agg #[.int .u32 x0, .int .u32 x1, .slice q qn qc, .slice q' qn' qc'] | 6 => ∃ a1 c1, v = .agg #[.int .u8 k', .int .u8 f', .slice a1 ys.length c1] ∧ Reads W a1 ys.length ys | 7 => v = .bool bb | 8 => v = .bool (!bb) | 9 => v = .bool (!bb) | _ => True
theorem ChkSack_mono {w wE : World} {k f k' f' : Int} {p : Option Addr} {n c : Nat} {ys : List Int} {bb : Bool} {x0 x1 : Int} {q : Option Addr} {qn qc : Nat} {q' : Option Addr} {qn' qc' : Nat} {W W' : World} (hb : Below W.heap.size W W') (j : Nat) (x : Value) (h : ChkSack w wE k f k' f' p n c ys bb x0 x1 q qn qc q' qn' qc' j x W) : ChkSack w wE k f k' f' p n c ys bb x0 x1 q qn qc q' qn' qc' j x W' := by
  unfold ChkSack at h ⊢
  split at h <;> try exact h
  · obtain ⟨a1, c1, e0, h0_0⟩ := h
    exact ⟨a1, c1, e0, h0_0.below hb⟩

set_option maxRecDepth 100000 in
set_option maxHeartbeats 3200000 in
theorem checkedSack (k f k' f' : Int) (p : Option Addr) (n c : Nat) (zs ys : List Int) (v : Bool) (x0 x1 : Int) (q : Option Addr) (qn qc : Nat) (q' : Option Addr) (qn' qc' : Nat) (w : World) (hr : Reads w p n zs) (hz : Byt zs) (hy : Byt ys) (hn : n ≤ 140737488355328) (hm : ys.length ≤ 140737488355328)
    (hput : ∀ W, Below w.heap.size w W → Calls Try.prog 29 #[.agg #[.int .u32 x0, .int .u32 x1, .slice q qn qc, .slice q' qn' qc']] W fun e w' => Puts W k' f' ys e w') :
    Calls Try.prog 64 #[.agg #[.int .u8 k, .int .u8 f, .slice p n c], .agg #[.int .u32 x0, .int .u32 x1, .slice q qn qc, .slice q' qn' qc'], .bool v, (.func (.func 29) #[] #[])] w fun e w' =>
      Chose (v && eqC k f zs k' f' ys) (.agg #[.int .u32 x0, .int .u32 x1, .slice q qn qc, .slice q' qn' qc']) (.agg #[.int .u32 0, .int .u32 0, .slice none 0 0, .slice none 0 0]) e ∧ Below w.heap.size w w' := by
  obtain ⟨wa, hwa⟩ : ∃ wa, w.alloc (.cells #[.int .u8 k, .int .u8 f, .slice p n c] 28) = wa := ⟨_, rfl⟩
  have hba : Below w.heap.size w wa := by rw [← hwa]; exact chunkBelow w k f _
  have hsa : wa.heap.size = w.heap.size + 1 := by rw [← hwa]; simp
  have hca : Arr wa w.heap.size 28 [.int .u8 k, .int .u8 f, .slice p n c] := by rw [← hwa]; exact chunkBox w k f _
  obtain ⟨wb, hwb⟩ : ∃ wb, wa.alloc (.cells #[.int .u32 x0, .int .u32 x1, .slice q qn qc, .slice q' qn' qc'] 52) = wb := ⟨_, rfl⟩
  have hbb : Below wa.heap.size wa wb := by rw [← hwb]; exact (Below.refl _ _).alloc (Nat.le_refl _) _
  have hsb : wb.heap.size = w.heap.size + 2 := by rw [← hwb]; simp; omega
  have hvb : Arr wb (w.heap.size + 1) 52 [.int .u32 x0, .int .u32 x1, .slice q qn qc, .slice q' qn' qc'] := by rw [← hwb, ← hsa]; exact arr_new _ _ _
  obtain ⟨wE, hwE⟩ : ∃ wE, wb.alloc (.cells #[.int .u32 0, .int .u32 0, .slice none 0 0, .slice none 0 0] 52) = wE := ⟨_, rfl⟩
  have hbE : Below wb.heap.size wb wE := by rw [← hwE]; exact (Below.refl _ _).alloc (Nat.le_refl _) _
  have hzE : Arr wE (w.heap.size + 2) 52 [.int .u32 0, .int .u32 0, .slice none 0 0, .slice none 0 0] := by rw [← hwE, ← hsb]; exact arr_new _ _ _
  have HBE := Lib.hid (hba.trans ((hbb.trans (hbE.mono hbb.size)).mono hba.size))
  have HC := Lib.hid ((hca.keep hbb).keep hbE)
  have HV := Lib.hid (hvb.keep hbE)
  have HZ := Lib.hid hzE
  obtain ⟨bb, hbb'⟩ : ∃ bb, bb = eqC k f zs k' f' ys := ⟨_, rfl⟩
  rw [← hbb']
  have HBB := Lib.hid hbb'
  have HR := Lib.hid (And.intro hr (And.intro hz (And.intro hy (And.intro hn hm))))
  have HPUT := Lib.hid hput
  clear hr hz hy hn hm hput hbb' hba hca hbb hvb hbE hzE
  go_enter Try.func64, Try.ntmps64
  cases v with
  | false =>
    clear HBB HR HPUT
    go_wp2_with fail
    go_quiet (fail)
    have HZW := Lib.hid (And.intro (show Arr (wE.drewN nq) _ _ _ from HZ.out) (show Below w.heap.size w (wE.drewN nq) from below_drewN HBE.out nq))
    generalize wE.drewN nq = wq at HZW ⊢
    have hbn : Below wq.heap.size wq (wq.alloc (.cells #[.int .u32 0, .int .u32 0, .slice none 0 0, .slice none 0 0] 52)) := (Below.refl _ _).alloc (Nat.le_refl _) _
    have hzn := HZW.out.1.keep hbn
    have hnn : Arr (wq.alloc (.cells #[.int .u32 0, .int .u32 0, .slice none 0 0, .slice none 0 0] 52)) wq.heap.size 52 [.int .u32 0, .int .u32 0, .slice none 0 0, .slice none 0 0] := arr_new _ _ _
    have n0 := hnn.cell (i := 0) rfl
    have n1 := hnn.cell (i := 1) rfl
    have n2 := hnn.cell (i := 2) rfl
    have n3 := hnn.cell (i := 3) rfl
    have fr0 := hzn.free 0
    have fr1 := hzn.free 1
    have fr2 := hzn.free 2
    have fr3 := hzn.free 3
    have y0 := hzn.cell (i := 0) rfl
    have y1 := hzn.cell (i := 1) rfl
    have y2 := hzn.cell (i := 2) rfl
    have y3 := hzn.cell (i := 3) rfl
    have hA3 := ((((hzn.set 0 (.int .u32 0)).set 1 (.int .u32 0)).set 2 (.slice none 0 0)).set 3 (.slice none 0 0))
    have hB3 := (((((HZW.out.2.trans (hbn.mono HZW.out.2.size)).setCell (p := ⟨w.heap.size + 2, 0, none⟩) (by simp) (.int .u32 0)).setCell (p := ⟨w.heap.size + 2, 1, none⟩) (by simp) (.int .u32 0)).setCell (p := ⟨w.heap.size + 2, 2, none⟩) (by simp) (.slice none 0 0)).setCell (p := ⟨w.heap.size + 2, 3, none⟩) (by simp) (.slice none 0 0))
    obtain ⟨W3, hW3⟩ : ∃ W3, (((((wq.alloc (.cells #[.int .u32 0, .int .u32 0, .slice none 0 0, .slice none 0 0] 52)).setCell ⟨w.heap.size + 2, 0, none⟩ (.int .u32 0)).setCell ⟨w.heap.size + 2, 1, none⟩ (.int .u32 0)).setCell ⟨w.heap.size + 2, 2, none⟩ (.slice none 0 0)).setCell ⟨w.heap.size + 2, 3, none⟩ (.slice none 0 0)) = W3 := ⟨_, rfl⟩
    rw [hW3] at hA3 hB3
    have z0 := hA3.cell (i := 0) rfl
    have z1 := hA3.cell (i := 1) rfl
    have z2 := hA3.cell (i := 2) rfl
    have z3 := hA3.cell (i := 3) rfl
    have HE := Lib.hid hB3
    clear hbn hzn hnn hA3 hB3
    go_wp2
    exact bodyPost_ret (by simp [results, Try.results64, go_sem, z0, z1, z2, z3] <;> rfl) rfl ⟨.inr ⟨rfl, rfl⟩, HE.out⟩
  | true =>
    simp only [Bool.true_and]
    go_wp2_with fail
    refine wp_region_any (by kernel_rfl) ?_
    refine Vals.wpAny_goodW (ChkSack w wE k f k' f' p n c ys bb x0 x1 q qn qc q' qn' qc') (fun _ => (fun W => Below wE.heap.size wE W)) [some 11, some 12, some 13, some 14, some 15, some 16, some 17, some 18, some 19, some 20] 23 _ _ rfl (by kernel_rfl) (by kernel_rfl) (by decide) ?step ?fin (Below.refl _ _).drew
    case step =>
      intro i o d ho hd listed a W hls hun hcl hJ hdf hdep hfr K hK
      match i, ho, hd with
      | 0, ho, hd =>
        have ho' := ho
        simp only [List.getElem?_toArray, List.getElem?_cons_zero, Option.some.injEq] at ho hd
        subst ho hd
        have r2 : a.eval (.tmp 2) = .bool true := hfr 2 (by decide)
        rw [Vals.eval_tmp] at r2
        refine Vals.wpOp_run ho' rfl ?_
        clear hdep hfr ho' hdf hcl
        go_simp
        exact hK _ _ (fun _ _ h => h) hJ (fun _ => rfl)
      | 1, ho, hd =>
        have ho' := ho
        simp only [List.getElem?_toArray, List.getElem?_cons_zero, List.getElem?_cons_succ, Option.some.injEq] at ho hd
        subst ho hd
        have r11 : a.eval (.tmp 11) = .bool true := (hdep ⟨0, .data⟩ (by simp) rfl).2 11 rfl
        rw [Vals.eval_tmp] at r11
        refine Vals.wpOp_run ho' rfl ?_
        clear hdep hfr ho' hdf hcl
        go_simp
        exact hK _ _ (fun _ _ h => h) hJ (fun _ => rfl)
      | 2, ho, hd =>
        have ho' := ho
        simp only [List.getElem?_toArray, List.getElem?_cons_zero, List.getElem?_cons_succ, Option.some.injEq] at ho hd
        subst ho hd
        have r12 : a.eval (.tmp 12) = .bool false := (hdep ⟨1, .data⟩ (by simp) rfl).2 12 rfl
        rw [Vals.eval_tmp] at r12
        refine Vals.wpOp_run ho' rfl ?_
        clear hdep hfr ho' hdf hcl
        go_simp
        exact hK _ _ (fun _ _ h => h) hJ (fun _ => rfl)
      | 3, ho, hd =>
        have ho' := ho
        simp only [List.getElem?_toArray, List.getElem?_cons_zero, List.getElem?_cons_succ, Option.some.injEq] at ho hd
        subst ho hd
        have hgd : a.eval (.tmp 13) = .bool false := (hdep ⟨2, .guard⟩ (by simp) rfl).2 13 rfl
        have r4 : a.eval (.tmp 4) = .pointer (some ⟨w.heap.size, 0, none⟩) := hfr 4 (by decide)
        rw [Vals.eval_tmp] at r4
        have c0 := (HC.out.keep hJ).cell (i := 0) rfl
        have c1 := (HC.out.keep hJ).cell (i := 1) rfl
        have c2 := (HC.out.keep hJ).cell (i := 2) rfl
        refine Vals.wpOp_run ho' (by unfold Region.wanted; simp only []; rw [Vals.yielded_of (d := 13) rfl hgd]; rfl) ?_
        clear hdep hfr ho' hdf hgd hcl
        go_simp
        exact hK _ _ (fun _ _ h => h) hJ (fun _ => rfl)
      | 4, ho, hd =>
        have ho' := ho
        simp only [List.getElem?_toArray, List.getElem?_cons_zero, List.getElem?_cons_succ, Option.some.injEq] at ho hd
        subst ho hd
        have hgd : a.eval (.tmp 13) = .bool false := (hdep ⟨2, .guard⟩ (by simp) rfl).2 13 rfl
        have r3 : a.eval (.tmp 3) = (.func (.func 29) #[] #[]) := hfr 3 (by decide)
        rw [Vals.eval_tmp] at r3
        refine Vals.wpOp_run ho' (by unfold Region.wanted; simp only []; rw [Vals.yielded_of (d := 13) rfl hgd]; rfl) ?_
        clear hdep hfr ho' hdf hgd hcl
        go_simp
        exact hK _ _ (fun _ _ h => h) hJ (fun _ => rfl)
      | 5, ho, hd =>
        have ho' := ho
        simp only [List.getElem?_toArray, List.getElem?_cons_zero, List.getElem?_cons_succ, Option.some.injEq] at ho hd
        subst ho hd
        have hgd : a.eval (.tmp 13) = .bool false := (hdep ⟨2, .guard⟩ (by simp) rfl).2 13 rfl
        have r5 : a.eval (.tmp 5) = .pointer (some ⟨w.heap.size + 1, 0, none⟩) := hfr 5 (by decide)
        rw [Vals.eval_tmp] at r5
        have c0 := (HV.out.keep hJ).cell (i := 0) rfl
        have c1 := (HV.out.keep hJ).cell (i := 1) rfl
        have c2 := (HV.out.keep hJ).cell (i := 2) rfl
        have c3 := (HV.out.keep hJ).cell (i := 3) rfl
        refine Vals.wpOp_run ho' (by unfold Region.wanted; simp only []; rw [Vals.yielded_of (d := 13) rfl hgd]; rfl) ?_
        clear hdep hfr ho' hdf hgd hcl
        go_simp
        exact hK _ _ (fun _ _ h => h) hJ (fun _ => rfl)
      | 6, ho, hd =>
        have ho' := ho
        simp only [List.getElem?_toArray, List.getElem?_cons_zero, List.getElem?_cons_succ, Option.some.injEq] at ho hd
        subst ho hd
        have hgd : a.eval (.tmp 13) = .bool false := (hdep ⟨2, .guard⟩ (by simp) rfl).2 13 rfl
        have r15 : a.eval (.tmp 15) = (.func (.func 29) #[] #[]) := (hdep ⟨4, .data⟩ (by simp) rfl).2 15 rfl
        rw [Vals.eval_tmp] at r15
        have r16 : a.eval (.tmp 16) = .agg #[.int .u32 x0, .int .u32 x1, .slice q qn qc, .slice q' qn' qc'] := (hdep ⟨5, .data⟩ (by simp) rfl).2 16 rfl
        rw [Vals.eval_tmp] at r16
        refine Vals.wpOp_run ho' (by unfold Region.wanted; simp only []; rw [Vals.yielded_of (d := 13) rfl hgd]; rfl) ?_
        clear hdep hfr ho' hdf hgd hcl
        go_simp
        refine (HPUT.out W (HBE.out.trans (hJ.mono HBE.out.size))).mono ?_
        rintro e w' ⟨a1, c1, rfl, hb3, hr3⟩
        exact hK _ _ (ChkSack_mono hb3) (hJ.trans (hb3.mono hJ.size)) (fun _ => ⟨_, _, rfl, hr3.reads⟩)
      | 7, ho, hd =>
        have ho' := ho
        simp only [List.getElem?_toArray, List.getElem?_cons_zero, List.getElem?_cons_succ, Option.some.injEq] at ho hd
        subst ho hd
        have hgd : a.eval (.tmp 13) = .bool false := (hdep ⟨2, .guard⟩ (by simp) rfl).2 13 rfl
        have r14 : a.eval (.tmp 14) = .agg #[.int .u8 k, .int .u8 f, .slice p n c] := (hdep ⟨3, .data⟩ (by simp) rfl).2 14 rfl
        rw [Vals.eval_tmp] at r14
        have g17 : ∃ a1_17 c1_17, a.eval (.tmp 17) = .agg #[.int .u8 k', .int .u8 f', .slice a1_17 ys.length c1_17] ∧ Reads W a1_17 ys.length ys := (hdep ⟨6, .data⟩ (by simp) rfl).2 17 rfl
        rw [Vals.eval_tmp] at g17
        obtain ⟨a1_17, c1_17, r17, h17_0⟩ := g17
        refine Vals.wpOp_run ho' (by unfold Region.wanted; simp only []; rw [Vals.yielded_of (d := 13) rfl hgd]; rfl) ?_
        clear hdep hfr ho' hdf hgd hcl
        go_simp
        refine (psame_any k f k' f' p a1_17 n _ c _ zs ys W (HR.out.1.below (HBE.out.trans (hJ.mono HBE.out.size))) h17_0 HR.out.2.1 HR.out.2.2.1 (by have := HR.out.2.2.2.1; omega) (by have := HR.out.2.2.2.2; omega)).mono ?_
        rintro e w' ⟨rfl, hb3⟩
        exact hK _ _ (ChkSack_mono hb3) (hJ.trans (hb3.mono hJ.size)) (fun _ => by show Value.bool _ = Value.bool _; first | rfl | rw [HBB.out])
      | 8, ho, hd =>
        have ho' := ho
        simp only [List.getElem?_toArray, List.getElem?_cons_zero, List.getElem?_cons_succ, Option.some.injEq] at ho hd
        subst ho hd
        have hgd : a.eval (.tmp 13) = .bool false := (hdep ⟨2, .guard⟩ (by simp) rfl).2 13 rfl
        have r18 : a.eval (.tmp 18) = .bool bb := (hdep ⟨7, .data⟩ (by simp) rfl).2 18 rfl
        rw [Vals.eval_tmp] at r18
        refine Vals.wpOp_run ho' (by unfold Region.wanted; simp only []; rw [Vals.yielded_of (d := 13) rfl hgd]; rfl) ?_
        clear hdep hfr ho' hdf hgd hcl
        go_simp
        exact hK _ _ (fun _ _ h => h) hJ (fun _ => rfl)
      | 9, ho, hd =>
        have ho' := ho
        simp only [List.getElem?_toArray, List.getElem?_cons_zero, List.getElem?_cons_succ, Option.some.injEq] at ho hd
        subst ho hd
        have r13 : a.eval (.tmp 13) = .bool false := (hdep ⟨2, .data⟩ (by simp) rfl).2 13 rfl
        rw [Vals.eval_tmp] at r13
        have r19 : a.eval (.tmp 19) = .bool (!bb) := (hdep ⟨8, .data⟩ (by simp) rfl).2 19 rfl
        rw [Vals.eval_tmp] at r19
        refine Vals.wpOp_run ho' rfl ?_
        clear hdep hfr ho' hdf hcl
        go_simp
        exact hK _ _ (fun _ _ h => h) hJ (fun _ => rfl)
      | i + 10, ho, hd => simp at ho
    case fin =>
      intro listed W fq hall hJ hG
      have q0 : fq 11 = .bool true := hG 0 11 rfl
      have q1 : fq 12 = .bool false := hG 1 12 rfl
      have q2 : fq 13 = .bool false := hG 2 13 rfl
      have q3 : fq 14 = .agg #[.int .u8 k, .int .u8 f, .slice p n c] := hG 3 14 rfl
      have q4 : fq 15 = (.func (.func 29) #[] #[]) := hG 4 15 rfl
      have q5 : fq 16 = .agg #[.int .u32 x0, .int .u32 x1, .slice q qn qc, .slice q' qn' qc'] := hG 5 16 rfl
      obtain ⟨a1_17, c1_17, q6, hq17_0⟩ : ∃ a1_17 c1_17, fq 17 = .agg #[.int .u8 k', .int .u8 f', .slice a1_17 ys.length c1_17] ∧ Reads W a1_17 ys.length ys := hG 6 17 rfl
      have q7 : fq 18 = .bool bb := hG 7 18 rfl
      have q8 : fq 19 = .bool (!bb) := hG 8 19 rfl
      have q9 : fq 20 = .bool (!bb) := hG 9 20 rfl
      clear hG hall
      simp only [Vals.puts, Vals.pairs, List.filterMap_cons, List.filterMap_nil, id, List.map_cons, List.map_nil, List.foldl_cons, List.foldl_nil, q0, q1, q2, q3, q4, q5, q6, q7, q8, q9]
      clear q0 q1 q2 q3 q4 q5 q6 q7 q8 q9
      go_frame

      have hJw := HBE.out.trans (hJ.mono HBE.out.size)
      have HZW := Lib.hid (And.intro (HZ.out.keep hJ) hJw)
      have HVW := Lib.hid (HV.out.keep hJ)
      clear hJ hJw HZ HV HC HBE HPUT HR HBB
      cases bb with
      | false =>
        have hbn : Below W.heap.size W (W.alloc (.cells #[.int .u32 0, .int .u32 0, .slice none 0 0, .slice none 0 0] 52)) := (Below.refl _ _).alloc (Nat.le_refl _) _
        have hzn := HZW.out.1.keep hbn
        have hnn : Arr (W.alloc (.cells #[.int .u32 0, .int .u32 0, .slice none 0 0, .slice none 0 0] 52)) W.heap.size 52 [.int .u32 0, .int .u32 0, .slice none 0 0, .slice none 0 0] := arr_new _ _ _
        have n0 := hnn.cell (i := 0) rfl
        have n1 := hnn.cell (i := 1) rfl
        have n2 := hnn.cell (i := 2) rfl
        have n3 := hnn.cell (i := 3) rfl
        have fr0 := hzn.free 0
        have fr1 := hzn.free 1
        have fr2 := hzn.free 2
        have fr3 := hzn.free 3
        have y0 := hzn.cell (i := 0) rfl
        have y1 := hzn.cell (i := 1) rfl
        have y2 := hzn.cell (i := 2) rfl
        have y3 := hzn.cell (i := 3) rfl
        have hA3 := ((((hzn.set 0 (.int .u32 0)).set 1 (.int .u32 0)).set 2 (.slice none 0 0)).set 3 (.slice none 0 0))
        have hB3 := (((((HZW.out.2.trans (hbn.mono HZW.out.2.size)).setCell (p := ⟨w.heap.size + 2, 0, none⟩) (by simp) (.int .u32 0)).setCell (p := ⟨w.heap.size + 2, 1, none⟩) (by simp) (.int .u32 0)).setCell (p := ⟨w.heap.size + 2, 2, none⟩) (by simp) (.slice none 0 0)).setCell (p := ⟨w.heap.size + 2, 3, none⟩) (by simp) (.slice none 0 0))
        obtain ⟨W3, hW3⟩ : ∃ W3, (((((W.alloc (.cells #[.int .u32 0, .int .u32 0, .slice none 0 0, .slice none 0 0] 52)).setCell ⟨w.heap.size + 2, 0, none⟩ (.int .u32 0)).setCell ⟨w.heap.size + 2, 1, none⟩ (.int .u32 0)).setCell ⟨w.heap.size + 2, 2, none⟩ (.slice none 0 0)).setCell ⟨w.heap.size + 2, 3, none⟩ (.slice none 0 0)) = W3 := ⟨_, rfl⟩
        rw [hW3] at hA3 hB3
        have z0 := hA3.cell (i := 0) rfl
        have z1 := hA3.cell (i := 1) rfl
        have z2 := hA3.cell (i := 2) rfl
        have z3 := hA3.cell (i := 3) rfl
        have HE := Lib.hid hB3
        clear hbn hzn hnn hA3 hB3
        go_wp2
        exact bodyPost_ret (by simp [results, Try.results64, go_sem, z0, z1, z2, z3] <;> rfl) rfl ⟨.inr ⟨rfl, rfl⟩, HE.out⟩
      | true =>
        have hzn := HZW.out.1
        have hvn := HVW.out
        have n0 := hvn.cell (i := 0) rfl
        have n1 := hvn.cell (i := 1) rfl
        have n2 := hvn.cell (i := 2) rfl
        have n3 := hvn.cell (i := 3) rfl
        have fr0 := hzn.free 0
        have fr1 := hzn.free 1
        have fr2 := hzn.free 2
        have fr3 := hzn.free 3
        have y0 := hzn.cell (i := 0) rfl
        have y1 := hzn.cell (i := 1) rfl
        have y2 := hzn.cell (i := 2) rfl
        have y3 := hzn.cell (i := 3) rfl
        have hA3 := ((((hzn.set 0 (.int .u32 x0)).set 1 (.int .u32 x1)).set 2 (.slice q qn qc)).set 3 (.slice q' qn' qc'))
        have hB3 := ((((HZW.out.2.setCell (p := ⟨w.heap.size + 2, 0, none⟩) (by simp) (.int .u32 x0)).setCell (p := ⟨w.heap.size + 2, 1, none⟩) (by simp) (.int .u32 x1)).setCell (p := ⟨w.heap.size + 2, 2, none⟩) (by simp) (.slice q qn qc)).setCell (p := ⟨w.heap.size + 2, 3, none⟩) (by simp) (.slice q' qn' qc'))
        obtain ⟨W3, hW3⟩ : ∃ W3, ((((W.setCell ⟨w.heap.size + 2, 0, none⟩ (.int .u32 x0)).setCell ⟨w.heap.size + 2, 1, none⟩ (.int .u32 x1)).setCell ⟨w.heap.size + 2, 2, none⟩ (.slice q qn qc)).setCell ⟨w.heap.size + 2, 3, none⟩ (.slice q' qn' qc')) = W3 := ⟨_, rfl⟩
        rw [hW3] at hA3 hB3
        have z0 := hA3.cell (i := 0) rfl
        have z1 := hA3.cell (i := 1) rfl
        have z2 := hA3.cell (i := 2) rfl
        have z3 := hA3.cell (i := 3) rfl
        have HE := Lib.hid hB3
        clear hzn hvn hA3 hB3
        go_wp2
        exact bodyPost_ret (by simp [results, Try.results64, go_sem, z0, z1, z2, z3] <;> rfl) rfl ⟨.inl ⟨rfl, rfl⟩, HE.out⟩

/-- What the operations of the drawn region leave behind. -/
def ChkData (w wE : World) (k f k' f' : Int) (p : Option Addr) (n c : Nat) (ys : List Int) (bb : Bool) (x0 x1 x2 : Int) (x3 x4 x5 : Bool) (q : Option Addr) (qn qc : Nat) (i : Nat) (v : Value) (W : World) : Prop := match i with | 0 => v = .bool true | 1 => v = .bool false | 2 => v = .bool false | 3 => v = .agg #[.int .u8 k, .int .u8 f, .slice p n c] | 4 => v = (.func (.func 15) #[] #[]) | 5 => v = .agg #[.int .u32 x0, .int .u16 x1, .int .u16 x2, .bool x3, .bool x4, .bool x5, .slice q qn qc] | 6 => ∃ a1 c1, v = .agg #[.int .u8 k', .int .u8 f', .slice a1 ys.length c1] ∧ Reads W a1 ys.length ys | 7 => v = .bool bb | 8 => v = .bool (!bb) | 9 => v = .bool (!bb) | _ => True
theorem ChkData_mono {w wE : World} {k f k' f' : Int} {p : Option Addr} {n c : Nat} {ys : List Int} {bb : Bool} {x0 x1 x2 : Int} {x3 x4 x5 : Bool} {q : Option Addr} {qn qc : Nat} {W W' : World} (hb : Below W.heap.size W W') (j : Nat) (x : Value) (h : ChkData w wE k f k' f' p n c ys bb x0 x1 x2 x3 x4 x5 q qn qc j x W) : ChkData w wE k f k' f' p n c ys bb x0 x1 x2 x3 x4 x5 q qn qc j x W' := by
  unfold ChkData at h ⊢
  split at h <;> try exact h
  · obtain ⟨a1, c1, e0, h0_0⟩ := h
    exact ⟨a1, c1, e0, h0_0.below hb⟩

set_option maxRecDepth 100000 in
set_option maxHeartbeats 3200000 in
theorem checkedData (k f k' f' : Int) (p : Option Addr) (n c : Nat) (zs ys : List Int) (v : Bool) (x0 x1 x2 : Int) (x3 x4 x5 : Bool) (q : Option Addr) (qn qc : Nat) (w : World) (hr : Reads w p n zs) (hz : Byt zs) (hy : Byt ys) (hn : n ≤ 140737488355328) (hm : ys.length ≤ 140737488355328)
    (hput : ∀ W, Below w.heap.size w W → Calls Try.prog 15 #[.agg #[.int .u32 x0, .int .u16 x1, .int .u16 x2, .bool x3, .bool x4, .bool x5, .slice q qn qc]] W fun e w' => Puts W k' f' ys e w') :
    Calls Try.prog 52 #[.agg #[.int .u8 k, .int .u8 f, .slice p n c], .agg #[.int .u32 x0, .int .u16 x1, .int .u16 x2, .bool x3, .bool x4, .bool x5, .slice q qn qc], .bool v, (.func (.func 15) #[] #[])] w fun e w' =>
      Chose (v && eqC k f zs k' f' ys) (.agg #[.int .u32 x0, .int .u16 x1, .int .u16 x2, .bool x3, .bool x4, .bool x5, .slice q qn qc]) (.agg #[.int .u32 0, .int .u16 0, .int .u16 0, .bool false, .bool false, .bool false, .slice none 0 0]) e ∧ Below w.heap.size w w' := by
  obtain ⟨wa, hwa⟩ : ∃ wa, w.alloc (.cells #[.int .u8 k, .int .u8 f, .slice p n c] 28) = wa := ⟨_, rfl⟩
  have hba : Below w.heap.size w wa := by rw [← hwa]; exact chunkBelow w k f _
  have hsa : wa.heap.size = w.heap.size + 1 := by rw [← hwa]; simp
  have hca : Arr wa w.heap.size 28 [.int .u8 k, .int .u8 f, .slice p n c] := by rw [← hwa]; exact chunkBox w k f _
  obtain ⟨wb, hwb⟩ : ∃ wb, wa.alloc (.cells #[.int .u32 x0, .int .u16 x1, .int .u16 x2, .bool x3, .bool x4, .bool x5, .slice q qn qc] 26) = wb := ⟨_, rfl⟩
  have hbb : Below wa.heap.size wa wb := by rw [← hwb]; exact (Below.refl _ _).alloc (Nat.le_refl _) _
  have hsb : wb.heap.size = w.heap.size + 2 := by rw [← hwb]; simp; omega
  have hvb : Arr wb (w.heap.size + 1) 26 [.int .u32 x0, .int .u16 x1, .int .u16 x2, .bool x3, .bool x4, .bool x5, .slice q qn qc] := by rw [← hwb, ← hsa]; exact arr_new _ _ _
  obtain ⟨wE, hwE⟩ : ∃ wE, wb.alloc (.cells #[.int .u32 0, .int .u16 0, .int .u16 0, .bool false, .bool false, .bool false, .slice none 0 0] 26) = wE := ⟨_, rfl⟩
  have hbE : Below wb.heap.size wb wE := by rw [← hwE]; exact (Below.refl _ _).alloc (Nat.le_refl _) _
  have hzE : Arr wE (w.heap.size + 2) 26 [.int .u32 0, .int .u16 0, .int .u16 0, .bool false, .bool false, .bool false, .slice none 0 0] := by rw [← hwE, ← hsb]; exact arr_new _ _ _
  have HBE := Lib.hid (hba.trans ((hbb.trans (hbE.mono hbb.size)).mono hba.size))
  have HC := Lib.hid ((hca.keep hbb).keep hbE)
  have HV := Lib.hid (hvb.keep hbE)
  have HZ := Lib.hid hzE
  obtain ⟨bb, hbb'⟩ : ∃ bb, bb = eqC k f zs k' f' ys := ⟨_, rfl⟩
  rw [← hbb']
  have HBB := Lib.hid hbb'
  have HR := Lib.hid (And.intro hr (And.intro hz (And.intro hy (And.intro hn hm))))
  have HPUT := Lib.hid hput
  clear hr hz hy hn hm hput hbb' hba hca hbb hvb hbE hzE
  go_enter Try.func52, Try.ntmps52
  cases v with
  | false =>
    clear HBB HR HPUT
    go_wp2_with fail
    go_quiet (fail)
    have HZW := Lib.hid (And.intro (show Arr (wE.drewN nq) _ _ _ from HZ.out) (show Below w.heap.size w (wE.drewN nq) from below_drewN HBE.out nq))
    generalize wE.drewN nq = wq at HZW ⊢
    have hbn : Below wq.heap.size wq (wq.alloc (.cells #[.int .u32 0, .int .u16 0, .int .u16 0, .bool false, .bool false, .bool false, .slice none 0 0] 26)) := (Below.refl _ _).alloc (Nat.le_refl _) _
    have hzn := HZW.out.1.keep hbn
    have hnn : Arr (wq.alloc (.cells #[.int .u32 0, .int .u16 0, .int .u16 0, .bool false, .bool false, .bool false, .slice none 0 0] 26)) wq.heap.size 26 [.int .u32 0, .int .u16 0, .int .u16 0, .bool false, .bool false, .bool false, .slice none 0 0] := arr_new _ _ _
    have n0 := hnn.cell (i := 0) rfl
    have n1 := hnn.cell (i := 1) rfl
    have n2 := hnn.cell (i := 2) rfl
    have n3 := hnn.cell (i := 3) rfl
    have n4 := hnn.cell (i := 4) rfl
    have n5 := hnn.cell (i := 5) rfl
    have n6 := hnn.cell (i := 6) rfl
    have fr0 := hzn.free 0
    have fr1 := hzn.free 1
    have fr2 := hzn.free 2
    have fr3 := hzn.free 3
    have fr4 := hzn.free 4
    have fr5 := hzn.free 5
    have fr6 := hzn.free 6
    have y0 := hzn.cell (i := 0) rfl
    have y1 := hzn.cell (i := 1) rfl
    have y2 := hzn.cell (i := 2) rfl
    have y3 := hzn.cell (i := 3) rfl
    have y4 := hzn.cell (i := 4) rfl
    have y5 := hzn.cell (i := 5) rfl
    have y6 := hzn.cell (i := 6) rfl
    have hA3 := (((((((hzn.set 0 (.int .u32 0)).set 1 (.int .u16 0)).set 2 (.int .u16 0)).set 3 (.bool false)).set 4 (.bool false)).set 5 (.bool false)).set 6 (.slice none 0 0))
    have hB3 := ((((((((HZW.out.2.trans (hbn.mono HZW.out.2.size)).setCell (p := ⟨w.heap.size + 2, 0, none⟩) (by simp) (.int .u32 0)).setCell (p := ⟨w.heap.size + 2, 1, none⟩) (by simp) (.int .u16 0)).setCell (p := ⟨w.heap.size + 2, 2, none⟩) (by simp) (.int .u16 0)).setCell (p := ⟨w.heap.size + 2, 3, none⟩) (by simp) (.bool false)).setCell (p := ⟨w.heap.size + 2, 4, none⟩) (by simp) (.bool false)).setCell (p := ⟨w.heap.size + 2, 5, none⟩) (by simp) (.bool false)).setCell (p := ⟨w.heap.size + 2, 6, none⟩) (by simp) (.slice none 0 0))
    obtain ⟨W3, hW3⟩ : ∃ W3, ((((((((wq.alloc (.cells #[.int .u32 0, .int .u16 0, .int .u16 0, .bool false, .bool false, .bool false, .slice none 0 0] 26)).setCell ⟨w.heap.size + 2, 0, none⟩ (.int .u32 0)).setCell ⟨w.heap.size + 2, 1, none⟩ (.int .u16 0)).setCell ⟨w.heap.size + 2, 2, none⟩ (.int .u16 0)).setCell ⟨w.heap.size + 2, 3, none⟩ (.bool false)).setCell ⟨w.heap.size + 2, 4, none⟩ (.bool false)).setCell ⟨w.heap.size + 2, 5, none⟩ (.bool false)).setCell ⟨w.heap.size + 2, 6, none⟩ (.slice none 0 0)) = W3 := ⟨_, rfl⟩
    rw [hW3] at hA3 hB3
    have z0 := hA3.cell (i := 0) rfl
    have z1 := hA3.cell (i := 1) rfl
    have z2 := hA3.cell (i := 2) rfl
    have z3 := hA3.cell (i := 3) rfl
    have z4 := hA3.cell (i := 4) rfl
    have z5 := hA3.cell (i := 5) rfl
    have z6 := hA3.cell (i := 6) rfl
    have HE := Lib.hid hB3
    clear hbn hzn hnn hA3 hB3
    go_wp2
    exact bodyPost_ret (by simp [results, Try.results52, go_sem, z0, z1, z2, z3, z4, z5, z6] <;> rfl) rfl ⟨.inr ⟨rfl, rfl⟩, HE.out⟩
  | true =>
    simp only [Bool.true_and]
    go_wp2_with fail
    refine wp_region_any (by kernel_rfl) ?_
    refine Vals.wpAny_goodW (ChkData w wE k f k' f' p n c ys bb x0 x1 x2 x3 x4 x5 q qn qc) (fun _ => (fun W => Below wE.heap.size wE W)) [some 11, some 12, some 13, some 14, some 15, some 16, some 17, some 18, some 19, some 20] 23 _ _ rfl (by kernel_rfl) (by kernel_rfl) (by decide) ?step ?fin (Below.refl _ _).drew
    case step =>
      intro i o d ho hd listed a W hls hun hcl hJ hdf hdep hfr K hK
      match i, ho, hd with
      | 0, ho, hd =>
        have ho' := ho
        simp only [List.getElem?_toArray, List.getElem?_cons_zero, Option.some.injEq] at ho hd
        subst ho hd
        have r2 : a.eval (.tmp 2) = .bool true := hfr 2 (by decide)
        rw [Vals.eval_tmp] at r2
        refine Vals.wpOp_run ho' rfl ?_
        clear hdep hfr ho' hdf hcl
        go_simp
        exact hK _ _ (fun _ _ h => h) hJ (fun _ => rfl)
      | 1, ho, hd =>
        have ho' := ho
        simp only [List.getElem?_toArray, List.getElem?_cons_zero, List.getElem?_cons_succ, Option.some.injEq] at ho hd
        subst ho hd
        have r11 : a.eval (.tmp 11) = .bool true := (hdep ⟨0, .data⟩ (by simp) rfl).2 11 rfl
        rw [Vals.eval_tmp] at r11
        refine Vals.wpOp_run ho' rfl ?_
        clear hdep hfr ho' hdf hcl
        go_simp
        exact hK _ _ (fun _ _ h => h) hJ (fun _ => rfl)
      | 2, ho, hd =>
        have ho' := ho
        simp only [List.getElem?_toArray, List.getElem?_cons_zero, List.getElem?_cons_succ, Option.some.injEq] at ho hd
        subst ho hd
        have r12 : a.eval (.tmp 12) = .bool false := (hdep ⟨1, .data⟩ (by simp) rfl).2 12 rfl
        rw [Vals.eval_tmp] at r12
        refine Vals.wpOp_run ho' rfl ?_
        clear hdep hfr ho' hdf hcl
        go_simp
        exact hK _ _ (fun _ _ h => h) hJ (fun _ => rfl)
      | 3, ho, hd =>
        have ho' := ho
        simp only [List.getElem?_toArray, List.getElem?_cons_zero, List.getElem?_cons_succ, Option.some.injEq] at ho hd
        subst ho hd
        have hgd : a.eval (.tmp 13) = .bool false := (hdep ⟨2, .guard⟩ (by simp) rfl).2 13 rfl
        have r4 : a.eval (.tmp 4) = .pointer (some ⟨w.heap.size, 0, none⟩) := hfr 4 (by decide)
        rw [Vals.eval_tmp] at r4
        have c0 := (HC.out.keep hJ).cell (i := 0) rfl
        have c1 := (HC.out.keep hJ).cell (i := 1) rfl
        have c2 := (HC.out.keep hJ).cell (i := 2) rfl
        refine Vals.wpOp_run ho' (by unfold Region.wanted; simp only []; rw [Vals.yielded_of (d := 13) rfl hgd]; rfl) ?_
        clear hdep hfr ho' hdf hgd hcl
        go_simp
        exact hK _ _ (fun _ _ h => h) hJ (fun _ => rfl)
      | 4, ho, hd =>
        have ho' := ho
        simp only [List.getElem?_toArray, List.getElem?_cons_zero, List.getElem?_cons_succ, Option.some.injEq] at ho hd
        subst ho hd
        have hgd : a.eval (.tmp 13) = .bool false := (hdep ⟨2, .guard⟩ (by simp) rfl).2 13 rfl
        have r3 : a.eval (.tmp 3) = (.func (.func 15) #[] #[]) := hfr 3 (by decide)
        rw [Vals.eval_tmp] at r3
        refine Vals.wpOp_run ho' (by unfold Region.wanted; simp only []; rw [Vals.yielded_of (d := 13) rfl hgd]; rfl) ?_
        clear hdep hfr ho' hdf hgd hcl
        go_simp
        exact hK _ _ (fun _ _ h => h) hJ (fun _ => rfl)
      | 5, ho, hd =>
        have ho' := ho
        simp only [List.getElem?_toArray, List.getElem?_cons_zero, List.getElem?_cons_succ, Option.some.injEq] at ho hd
        subst ho hd
        have hgd : a.eval (.tmp 13) = .bool false := (hdep ⟨2, .guard⟩ (by simp) rfl).2 13 rfl
        have r5 : a.eval (.tmp 5) = .pointer (some ⟨w.heap.size + 1, 0, none⟩) := hfr 5 (by decide)
        rw [Vals.eval_tmp] at r5
        have c0 := (HV.out.keep hJ).cell (i := 0) rfl
        have c1 := (HV.out.keep hJ).cell (i := 1) rfl
        have c2 := (HV.out.keep hJ).cell (i := 2) rfl
        have c3 := (HV.out.keep hJ).cell (i := 3) rfl
        have c4 := (HV.out.keep hJ).cell (i := 4) rfl
        have c5 := (HV.out.keep hJ).cell (i := 5) rfl
        have c6 := (HV.out.keep hJ).cell (i := 6) rfl
        refine Vals.wpOp_run ho' (by unfold Region.wanted; simp only []; rw [Vals.yielded_of (d := 13) rfl hgd]; rfl) ?_
        clear hdep hfr ho' hdf hgd hcl
        go_simp
        exact hK _ _ (fun _ _ h => h) hJ (fun _ => rfl)
      | 6, ho, hd =>
        have ho' := ho
        simp only [List.getElem?_toArray, List.getElem?_cons_zero, List.getElem?_cons_succ, Option.some.injEq] at ho hd
        subst ho hd
        have hgd : a.eval (.tmp 13) = .bool false := (hdep ⟨2, .guard⟩ (by simp) rfl).2 13 rfl
        have r15 : a.eval (.tmp 15) = (.func (.func 15) #[] #[]) := (hdep ⟨4, .data⟩ (by simp) rfl).2 15 rfl
        rw [Vals.eval_tmp] at r15
        have r16 : a.eval (.tmp 16) = .agg #[.int .u32 x0, .int .u16 x1, .int .u16 x2, .bool x3, .bool x4, .bool x5, .slice q qn qc] := (hdep ⟨5, .data⟩ (by simp) rfl).2 16 rfl
        rw [Vals.eval_tmp] at r16
        refine Vals.wpOp_run ho' (by unfold Region.wanted; simp only []; rw [Vals.yielded_of (d := 13) rfl hgd]; rfl) ?_
        clear hdep hfr ho' hdf hgd hcl
        go_simp
        refine (HPUT.out W (HBE.out.trans (hJ.mono HBE.out.size))).mono ?_
        rintro e w' ⟨a1, c1, rfl, hb3, hr3⟩
        exact hK _ _ (ChkData_mono hb3) (hJ.trans (hb3.mono hJ.size)) (fun _ => ⟨_, _, rfl, hr3.reads⟩)
      | 7, ho, hd =>
        have ho' := ho
        simp only [List.getElem?_toArray, List.getElem?_cons_zero, List.getElem?_cons_succ, Option.some.injEq] at ho hd
        subst ho hd
        have hgd : a.eval (.tmp 13) = .bool false := (hdep ⟨2, .guard⟩ (by simp) rfl).2 13 rfl
        have r14 : a.eval (.tmp 14) = .agg #[.int .u8 k, .int .u8 f, .slice p n c] := (hdep ⟨3, .data⟩ (by simp) rfl).2 14 rfl
        rw [Vals.eval_tmp] at r14
        have g17 : ∃ a1_17 c1_17, a.eval (.tmp 17) = .agg #[.int .u8 k', .int .u8 f', .slice a1_17 ys.length c1_17] ∧ Reads W a1_17 ys.length ys := (hdep ⟨6, .data⟩ (by simp) rfl).2 17 rfl
        rw [Vals.eval_tmp] at g17
        obtain ⟨a1_17, c1_17, r17, h17_0⟩ := g17
        refine Vals.wpOp_run ho' (by unfold Region.wanted; simp only []; rw [Vals.yielded_of (d := 13) rfl hgd]; rfl) ?_
        clear hdep hfr ho' hdf hgd hcl
        go_simp
        refine (psame_any k f k' f' p a1_17 n _ c _ zs ys W (HR.out.1.below (HBE.out.trans (hJ.mono HBE.out.size))) h17_0 HR.out.2.1 HR.out.2.2.1 (by have := HR.out.2.2.2.1; omega) (by have := HR.out.2.2.2.2; omega)).mono ?_
        rintro e w' ⟨rfl, hb3⟩
        exact hK _ _ (ChkData_mono hb3) (hJ.trans (hb3.mono hJ.size)) (fun _ => by show Value.bool _ = Value.bool _; first | rfl | rw [HBB.out])
      | 8, ho, hd =>
        have ho' := ho
        simp only [List.getElem?_toArray, List.getElem?_cons_zero, List.getElem?_cons_succ, Option.some.injEq] at ho hd
        subst ho hd
        have hgd : a.eval (.tmp 13) = .bool false := (hdep ⟨2, .guard⟩ (by simp) rfl).2 13 rfl
        have r18 : a.eval (.tmp 18) = .bool bb := (hdep ⟨7, .data⟩ (by simp) rfl).2 18 rfl
        rw [Vals.eval_tmp] at r18
        refine Vals.wpOp_run ho' (by unfold Region.wanted; simp only []; rw [Vals.yielded_of (d := 13) rfl hgd]; rfl) ?_
        clear hdep hfr ho' hdf hgd hcl
        go_simp
        exact hK _ _ (fun _ _ h => h) hJ (fun _ => rfl)
      | 9, ho, hd =>
        have ho' := ho
        simp only [List.getElem?_toArray, List.getElem?_cons_zero, List.getElem?_cons_succ, Option.some.injEq] at ho hd
        subst ho hd
        have r13 : a.eval (.tmp 13) = .bool false := (hdep ⟨2, .data⟩ (by simp) rfl).2 13 rfl
        rw [Vals.eval_tmp] at r13
        have r19 : a.eval (.tmp 19) = .bool (!bb) := (hdep ⟨8, .data⟩ (by simp) rfl).2 19 rfl
        rw [Vals.eval_tmp] at r19
        refine Vals.wpOp_run ho' rfl ?_
        clear hdep hfr ho' hdf hcl
        go_simp
        exact hK _ _ (fun _ _ h => h) hJ (fun _ => rfl)
      | i + 10, ho, hd => simp at ho
    case fin =>
      intro listed W fq hall hJ hG
      have q0 : fq 11 = .bool true := hG 0 11 rfl
      have q1 : fq 12 = .bool false := hG 1 12 rfl
      have q2 : fq 13 = .bool false := hG 2 13 rfl
      have q3 : fq 14 = .agg #[.int .u8 k, .int .u8 f, .slice p n c] := hG 3 14 rfl
      have q4 : fq 15 = (.func (.func 15) #[] #[]) := hG 4 15 rfl
      have q5 : fq 16 = .agg #[.int .u32 x0, .int .u16 x1, .int .u16 x2, .bool x3, .bool x4, .bool x5, .slice q qn qc] := hG 5 16 rfl
      obtain ⟨a1_17, c1_17, q6, hq17_0⟩ : ∃ a1_17 c1_17, fq 17 = .agg #[.int .u8 k', .int .u8 f', .slice a1_17 ys.length c1_17] ∧ Reads W a1_17 ys.length ys := hG 6 17 rfl
      have q7 : fq 18 = .bool bb := hG 7 18 rfl
      have q8 : fq 19 = .bool (!bb) := hG 8 19 rfl
      have q9 : fq 20 = .bool (!bb) := hG 9 20 rfl
      clear hG hall
      simp only [Vals.puts, Vals.pairs, List.filterMap_cons, List.filterMap_nil, id, List.map_cons, List.map_nil, List.foldl_cons, List.foldl_nil, q0, q1, q2, q3, q4, q5, q6, q7, q8, q9]
      clear q0 q1 q2 q3 q4 q5 q6 q7 q8 q9
      go_frame

      have hJw := HBE.out.trans (hJ.mono HBE.out.size)
      have HZW := Lib.hid (And.intro (HZ.out.keep hJ) hJw)
      have HVW := Lib.hid (HV.out.keep hJ)
      clear hJ hJw HZ HV HC HBE HPUT HR HBB
      cases bb with
      | false =>
        have hbn : Below W.heap.size W (W.alloc (.cells #[.int .u32 0, .int .u16 0, .int .u16 0, .bool false, .bool false, .bool false, .slice none 0 0] 26)) := (Below.refl _ _).alloc (Nat.le_refl _) _
        have hzn := HZW.out.1.keep hbn
        have hnn : Arr (W.alloc (.cells #[.int .u32 0, .int .u16 0, .int .u16 0, .bool false, .bool false, .bool false, .slice none 0 0] 26)) W.heap.size 26 [.int .u32 0, .int .u16 0, .int .u16 0, .bool false, .bool false, .bool false, .slice none 0 0] := arr_new _ _ _
        have n0 := hnn.cell (i := 0) rfl
        have n1 := hnn.cell (i := 1) rfl
        have n2 := hnn.cell (i := 2) rfl
        have n3 := hnn.cell (i := 3) rfl
        have n4 := hnn.cell (i := 4) rfl
        have n5 := hnn.cell (i := 5) rfl
        have n6 := hnn.cell (i := 6) rfl
        have fr0 := hzn.free 0
        have fr1 := hzn.free 1
        have fr2 := hzn.free 2
        have fr3 := hzn.free 3
        have fr4 := hzn.free 4
        have fr5 := hzn.free 5
        have fr6 := hzn.free 6
        have y0 := hzn.cell (i := 0) rfl
        have y1 := hzn.cell (i := 1) rfl
        have y2 := hzn.cell (i := 2) rfl
        have y3 := hzn.cell (i := 3) rfl
        have y4 := hzn.cell (i := 4) rfl
        have y5 := hzn.cell (i := 5) rfl
        have y6 := hzn.cell (i := 6) rfl
        have hA3 := (((((((hzn.set 0 (.int .u32 0)).set 1 (.int .u16 0)).set 2 (.int .u16 0)).set 3 (.bool false)).set 4 (.bool false)).set 5 (.bool false)).set 6 (.slice none 0 0))
        have hB3 := ((((((((HZW.out.2.trans (hbn.mono HZW.out.2.size)).setCell (p := ⟨w.heap.size + 2, 0, none⟩) (by simp) (.int .u32 0)).setCell (p := ⟨w.heap.size + 2, 1, none⟩) (by simp) (.int .u16 0)).setCell (p := ⟨w.heap.size + 2, 2, none⟩) (by simp) (.int .u16 0)).setCell (p := ⟨w.heap.size + 2, 3, none⟩) (by simp) (.bool false)).setCell (p := ⟨w.heap.size + 2, 4, none⟩) (by simp) (.bool false)).setCell (p := ⟨w.heap.size + 2, 5, none⟩) (by simp) (.bool false)).setCell (p := ⟨w.heap.size + 2, 6, none⟩) (by simp) (.slice none 0 0))
        obtain ⟨W3, hW3⟩ : ∃ W3, ((((((((W.alloc (.cells #[.int .u32 0, .int .u16 0, .int .u16 0, .bool false, .bool false, .bool false, .slice none 0 0] 26)).setCell ⟨w.heap.size + 2, 0, none⟩ (.int .u32 0)).setCell ⟨w.heap.size + 2, 1, none⟩ (.int .u16 0)).setCell ⟨w.heap.size + 2, 2, none⟩ (.int .u16 0)).setCell ⟨w.heap.size + 2, 3, none⟩ (.bool false)).setCell ⟨w.heap.size + 2, 4, none⟩ (.bool false)).setCell ⟨w.heap.size + 2, 5, none⟩ (.bool false)).setCell ⟨w.heap.size + 2, 6, none⟩ (.slice none 0 0)) = W3 := ⟨_, rfl⟩
        rw [hW3] at hA3 hB3
        have z0 := hA3.cell (i := 0) rfl
        have z1 := hA3.cell (i := 1) rfl
        have z2 := hA3.cell (i := 2) rfl
        have z3 := hA3.cell (i := 3) rfl
        have z4 := hA3.cell (i := 4) rfl
        have z5 := hA3.cell (i := 5) rfl
        have z6 := hA3.cell (i := 6) rfl
        have HE := Lib.hid hB3
        clear hbn hzn hnn hA3 hB3
        go_wp2
        exact bodyPost_ret (by simp [results, Try.results52, go_sem, z0, z1, z2, z3, z4, z5, z6] <;> rfl) rfl ⟨.inr ⟨rfl, rfl⟩, HE.out⟩
      | true =>
        have hzn := HZW.out.1
        have hvn := HVW.out
        have n0 := hvn.cell (i := 0) rfl
        have n1 := hvn.cell (i := 1) rfl
        have n2 := hvn.cell (i := 2) rfl
        have n3 := hvn.cell (i := 3) rfl
        have n4 := hvn.cell (i := 4) rfl
        have n5 := hvn.cell (i := 5) rfl
        have n6 := hvn.cell (i := 6) rfl
        have fr0 := hzn.free 0
        have fr1 := hzn.free 1
        have fr2 := hzn.free 2
        have fr3 := hzn.free 3
        have fr4 := hzn.free 4
        have fr5 := hzn.free 5
        have fr6 := hzn.free 6
        have y0 := hzn.cell (i := 0) rfl
        have y1 := hzn.cell (i := 1) rfl
        have y2 := hzn.cell (i := 2) rfl
        have y3 := hzn.cell (i := 3) rfl
        have y4 := hzn.cell (i := 4) rfl
        have y5 := hzn.cell (i := 5) rfl
        have y6 := hzn.cell (i := 6) rfl
        have hA3 := (((((((hzn.set 0 (.int .u32 x0)).set 1 (.int .u16 x1)).set 2 (.int .u16 x2)).set 3 (.bool x3)).set 4 (.bool x4)).set 5 (.bool x5)).set 6 (.slice q qn qc))
        have hB3 := (((((((HZW.out.2.setCell (p := ⟨w.heap.size + 2, 0, none⟩) (by simp) (.int .u32 x0)).setCell (p := ⟨w.heap.size + 2, 1, none⟩) (by simp) (.int .u16 x1)).setCell (p := ⟨w.heap.size + 2, 2, none⟩) (by simp) (.int .u16 x2)).setCell (p := ⟨w.heap.size + 2, 3, none⟩) (by simp) (.bool x3)).setCell (p := ⟨w.heap.size + 2, 4, none⟩) (by simp) (.bool x4)).setCell (p := ⟨w.heap.size + 2, 5, none⟩) (by simp) (.bool x5)).setCell (p := ⟨w.heap.size + 2, 6, none⟩) (by simp) (.slice q qn qc))
        obtain ⟨W3, hW3⟩ : ∃ W3, (((((((W.setCell ⟨w.heap.size + 2, 0, none⟩ (.int .u32 x0)).setCell ⟨w.heap.size + 2, 1, none⟩ (.int .u16 x1)).setCell ⟨w.heap.size + 2, 2, none⟩ (.int .u16 x2)).setCell ⟨w.heap.size + 2, 3, none⟩ (.bool x3)).setCell ⟨w.heap.size + 2, 4, none⟩ (.bool x4)).setCell ⟨w.heap.size + 2, 5, none⟩ (.bool x5)).setCell ⟨w.heap.size + 2, 6, none⟩ (.slice q qn qc)) = W3 := ⟨_, rfl⟩
        rw [hW3] at hA3 hB3
        have z0 := hA3.cell (i := 0) rfl
        have z1 := hA3.cell (i := 1) rfl
        have z2 := hA3.cell (i := 2) rfl
        have z3 := hA3.cell (i := 3) rfl
        have z4 := hA3.cell (i := 4) rfl
        have z5 := hA3.cell (i := 5) rfl
        have z6 := hA3.cell (i := 6) rfl
        have HE := Lib.hid hB3
        clear hzn hvn hA3 hB3
        go_wp2
        exact bodyPost_ret (by simp [results, Try.results52, go_sem, z0, z1, z2, z3, z4, z5, z6] <;> rfl) rfl ⟨.inl ⟨rfl, rfl⟩, HE.out⟩

/-- What the operations of the drawn region leave behind. -/
def ChkInit (w wE : World) (k f k' f' : Int) (p : Option Addr) (n c : Nat) (ys : List Int) (bb : Bool) (cp : Addr) (x0 x1 x2 x3 x4 : Int) (q : Option Addr) (qn qc : Nat) (i : Nat) (v : Value) (W : World) : Prop := match i with | 0 => v = .bool true | 1 => v = .bool false | 2 => v = .bool false | 3 => v = .agg #[.int .u8 k, .int .u8 f, .slice p n c] | 4 => v = (.func (.func 61) #[] #[.pointer (some cp)]) | 5 => v = .agg #[.int .u32 x0, .int .u32 x1, .int .u16 x2, .int .u16 x3, .int .u32 x4, .slice q qn qc] | 6 => ∃ a1 c1, v = .agg #[.int .u8 k', .int .u8 f', .slice a1 ys.length c1] ∧ Reads W a1 ys.length ys | 7 => v = .bool bb | 8 => v = .bool (!bb) | 9 => v = .bool (!bb) | _ => True
theorem ChkInit_mono {w wE : World} {k f k' f' : Int} {p : Option Addr} {n c : Nat} {ys : List Int} {bb : Bool} {cp : Addr} {x0 x1 x2 x3 x4 : Int} {q : Option Addr} {qn qc : Nat} {W W' : World} (hb : Below W.heap.size W W') (j : Nat) (x : Value) (h : ChkInit w wE k f k' f' p n c ys bb cp x0 x1 x2 x3 x4 q qn qc j x W) : ChkInit w wE k f k' f' p n c ys bb cp x0 x1 x2 x3 x4 q qn qc j x W' := by
  unfold ChkInit at h ⊢
  split at h <;> try exact h
  · obtain ⟨a1, c1, e0, h0_0⟩ := h
    exact ⟨a1, c1, e0, h0_0.below hb⟩

set_option maxRecDepth 100000 in
set_option maxHeartbeats 3200000 in
theorem checkedInit (cp : Addr) (k f k' f' : Int) (p : Option Addr) (n c : Nat) (zs ys : List Int) (v : Bool) (x0 x1 x2 x3 x4 : Int) (q : Option Addr) (qn qc : Nat) (w : World) (hr : Reads w p n zs) (hz : Byt zs) (hy : Byt ys) (hn : n ≤ 140737488355328) (hm : ys.length ≤ 140737488355328)
    (hput : ∀ W, Below w.heap.size w W → Calls Try.prog 61 #[.agg #[.int .u32 x0, .int .u32 x1, .int .u16 x2, .int .u16 x3, .int .u32 x4, .slice q qn qc], .pointer (some cp)] W fun e w' => Puts W k' f' ys e w') :
    Calls Try.prog 59 #[.agg #[.int .u8 k, .int .u8 f, .slice p n c], .agg #[.int .u32 x0, .int .u32 x1, .int .u16 x2, .int .u16 x3, .int .u32 x4, .slice q qn qc], .bool v, (.func (.func 61) #[] #[.pointer (some cp)])] w fun e w' =>
      Chose (v && eqC k f zs k' f' ys) (.agg #[.int .u32 x0, .int .u32 x1, .int .u16 x2, .int .u16 x3, .int .u32 x4, .slice q qn qc]) (.agg #[.int .u32 0, .int .u32 0, .int .u16 0, .int .u16 0, .int .u32 0, .slice none 0 0]) e ∧ Below w.heap.size w w' := by
  obtain ⟨wa, hwa⟩ : ∃ wa, w.alloc (.cells #[.int .u8 k, .int .u8 f, .slice p n c] 28) = wa := ⟨_, rfl⟩
  have hba : Below w.heap.size w wa := by rw [← hwa]; exact chunkBelow w k f _
  have hsa : wa.heap.size = w.heap.size + 1 := by rw [← hwa]; simp
  have hca : Arr wa w.heap.size 28 [.int .u8 k, .int .u8 f, .slice p n c] := by rw [← hwa]; exact chunkBox w k f _
  obtain ⟨wb, hwb⟩ : ∃ wb, wa.alloc (.cells #[.int .u32 x0, .int .u32 x1, .int .u16 x2, .int .u16 x3, .int .u32 x4, .slice q qn qc] 43) = wb := ⟨_, rfl⟩
  have hbb : Below wa.heap.size wa wb := by rw [← hwb]; exact (Below.refl _ _).alloc (Nat.le_refl _) _
  have hsb : wb.heap.size = w.heap.size + 2 := by rw [← hwb]; simp; omega
  have hvb : Arr wb (w.heap.size + 1) 43 [.int .u32 x0, .int .u32 x1, .int .u16 x2, .int .u16 x3, .int .u32 x4, .slice q qn qc] := by rw [← hwb, ← hsa]; exact arr_new _ _ _
  obtain ⟨wE, hwE⟩ : ∃ wE, wb.alloc (.cells #[.int .u32 0, .int .u32 0, .int .u16 0, .int .u16 0, .int .u32 0, .slice none 0 0] 43) = wE := ⟨_, rfl⟩
  have hbE : Below wb.heap.size wb wE := by rw [← hwE]; exact (Below.refl _ _).alloc (Nat.le_refl _) _
  have hzE : Arr wE (w.heap.size + 2) 43 [.int .u32 0, .int .u32 0, .int .u16 0, .int .u16 0, .int .u32 0, .slice none 0 0] := by rw [← hwE, ← hsb]; exact arr_new _ _ _
  have HBE := Lib.hid (hba.trans ((hbb.trans (hbE.mono hbb.size)).mono hba.size))
  have HC := Lib.hid ((hca.keep hbb).keep hbE)
  have HV := Lib.hid (hvb.keep hbE)
  have HZ := Lib.hid hzE
  obtain ⟨bb, hbb'⟩ : ∃ bb, bb = eqC k f zs k' f' ys := ⟨_, rfl⟩
  rw [← hbb']
  have HBB := Lib.hid hbb'
  have HR := Lib.hid (And.intro hr (And.intro hz (And.intro hy (And.intro hn hm))))
  have HPUT := Lib.hid hput
  clear hr hz hy hn hm hput hbb' hba hca hbb hvb hbE hzE
  go_enter Try.func59, Try.ntmps59
  cases v with
  | false =>
    clear HBB HR HPUT
    go_wp2_with fail
    go_quiet (fail)
    have HZW := Lib.hid (And.intro (show Arr (wE.drewN nq) _ _ _ from HZ.out) (show Below w.heap.size w (wE.drewN nq) from below_drewN HBE.out nq))
    generalize wE.drewN nq = wq at HZW ⊢
    have hbn : Below wq.heap.size wq (wq.alloc (.cells #[.int .u32 0, .int .u32 0, .int .u16 0, .int .u16 0, .int .u32 0, .slice none 0 0] 43)) := (Below.refl _ _).alloc (Nat.le_refl _) _
    have hzn := HZW.out.1.keep hbn
    have hnn : Arr (wq.alloc (.cells #[.int .u32 0, .int .u32 0, .int .u16 0, .int .u16 0, .int .u32 0, .slice none 0 0] 43)) wq.heap.size 43 [.int .u32 0, .int .u32 0, .int .u16 0, .int .u16 0, .int .u32 0, .slice none 0 0] := arr_new _ _ _
    have n0 := hnn.cell (i := 0) rfl
    have n1 := hnn.cell (i := 1) rfl
    have n2 := hnn.cell (i := 2) rfl
    have n3 := hnn.cell (i := 3) rfl
    have n4 := hnn.cell (i := 4) rfl
    have n5 := hnn.cell (i := 5) rfl
    have fr0 := hzn.free 0
    have fr1 := hzn.free 1
    have fr2 := hzn.free 2
    have fr3 := hzn.free 3
    have fr4 := hzn.free 4
    have fr5 := hzn.free 5
    have y0 := hzn.cell (i := 0) rfl
    have y1 := hzn.cell (i := 1) rfl
    have y2 := hzn.cell (i := 2) rfl
    have y3 := hzn.cell (i := 3) rfl
    have y4 := hzn.cell (i := 4) rfl
    have y5 := hzn.cell (i := 5) rfl
    have hA3 := ((((((hzn.set 0 (.int .u32 0)).set 1 (.int .u32 0)).set 2 (.int .u16 0)).set 3 (.int .u16 0)).set 4 (.int .u32 0)).set 5 (.slice none 0 0))
    have hB3 := (((((((HZW.out.2.trans (hbn.mono HZW.out.2.size)).setCell (p := ⟨w.heap.size + 2, 0, none⟩) (by simp) (.int .u32 0)).setCell (p := ⟨w.heap.size + 2, 1, none⟩) (by simp) (.int .u32 0)).setCell (p := ⟨w.heap.size + 2, 2, none⟩) (by simp) (.int .u16 0)).setCell (p := ⟨w.heap.size + 2, 3, none⟩) (by simp) (.int .u16 0)).setCell (p := ⟨w.heap.size + 2, 4, none⟩) (by simp) (.int .u32 0)).setCell (p := ⟨w.heap.size + 2, 5, none⟩) (by simp) (.slice none 0 0))
    obtain ⟨W3, hW3⟩ : ∃ W3, (((((((wq.alloc (.cells #[.int .u32 0, .int .u32 0, .int .u16 0, .int .u16 0, .int .u32 0, .slice none 0 0] 43)).setCell ⟨w.heap.size + 2, 0, none⟩ (.int .u32 0)).setCell ⟨w.heap.size + 2, 1, none⟩ (.int .u32 0)).setCell ⟨w.heap.size + 2, 2, none⟩ (.int .u16 0)).setCell ⟨w.heap.size + 2, 3, none⟩ (.int .u16 0)).setCell ⟨w.heap.size + 2, 4, none⟩ (.int .u32 0)).setCell ⟨w.heap.size + 2, 5, none⟩ (.slice none 0 0)) = W3 := ⟨_, rfl⟩
    rw [hW3] at hA3 hB3
    have z0 := hA3.cell (i := 0) rfl
    have z1 := hA3.cell (i := 1) rfl
    have z2 := hA3.cell (i := 2) rfl
    have z3 := hA3.cell (i := 3) rfl
    have z4 := hA3.cell (i := 4) rfl
    have z5 := hA3.cell (i := 5) rfl
    have HE := Lib.hid hB3
    clear hbn hzn hnn hA3 hB3
    go_wp2
    exact bodyPost_ret (by simp [results, Try.results59, go_sem, z0, z1, z2, z3, z4, z5] <;> rfl) rfl ⟨.inr ⟨rfl, rfl⟩, HE.out⟩
  | true =>
    simp only [Bool.true_and]
    go_wp2_with fail
    refine wp_region_any (by kernel_rfl) ?_
    refine Vals.wpAny_goodW (ChkInit w wE k f k' f' p n c ys bb cp x0 x1 x2 x3 x4 q qn qc) (fun _ => (fun W => Below wE.heap.size wE W)) [some 11, some 12, some 13, some 14, some 15, some 16, some 17, some 18, some 19, some 20] 23 _ _ rfl (by kernel_rfl) (by kernel_rfl) (by decide) ?step ?fin (Below.refl _ _).drew
    case step =>
      intro i o d ho hd listed a W hls hun hcl hJ hdf hdep hfr K hK
      match i, ho, hd with
      | 0, ho, hd =>
        have ho' := ho
        simp only [List.getElem?_toArray, List.getElem?_cons_zero, Option.some.injEq] at ho hd
        subst ho hd
        have r2 : a.eval (.tmp 2) = .bool true := hfr 2 (by decide)
        rw [Vals.eval_tmp] at r2
        refine Vals.wpOp_run ho' rfl ?_
        clear hdep hfr ho' hdf hcl
        go_simp
        exact hK _ _ (fun _ _ h => h) hJ (fun _ => rfl)
      | 1, ho, hd =>
        have ho' := ho
        simp only [List.getElem?_toArray, List.getElem?_cons_zero, List.getElem?_cons_succ, Option.some.injEq] at ho hd
        subst ho hd
        have r11 : a.eval (.tmp 11) = .bool true := (hdep ⟨0, .data⟩ (by simp) rfl).2 11 rfl
        rw [Vals.eval_tmp] at r11
        refine Vals.wpOp_run ho' rfl ?_
        clear hdep hfr ho' hdf hcl
        go_simp
        exact hK _ _ (fun _ _ h => h) hJ (fun _ => rfl)
      | 2, ho, hd =>
        have ho' := ho
        simp only [List.getElem?_toArray, List.getElem?_cons_zero, List.getElem?_cons_succ, Option.some.injEq] at ho hd
        subst ho hd
        have r12 : a.eval (.tmp 12) = .bool false := (hdep ⟨1, .data⟩ (by simp) rfl).2 12 rfl
        rw [Vals.eval_tmp] at r12
        refine Vals.wpOp_run ho' rfl ?_
        clear hdep hfr ho' hdf hcl
        go_simp
        exact hK _ _ (fun _ _ h => h) hJ (fun _ => rfl)
      | 3, ho, hd =>
        have ho' := ho
        simp only [List.getElem?_toArray, List.getElem?_cons_zero, List.getElem?_cons_succ, Option.some.injEq] at ho hd
        subst ho hd
        have hgd : a.eval (.tmp 13) = .bool false := (hdep ⟨2, .guard⟩ (by simp) rfl).2 13 rfl
        have r4 : a.eval (.tmp 4) = .pointer (some ⟨w.heap.size, 0, none⟩) := hfr 4 (by decide)
        rw [Vals.eval_tmp] at r4
        have c0 := (HC.out.keep hJ).cell (i := 0) rfl
        have c1 := (HC.out.keep hJ).cell (i := 1) rfl
        have c2 := (HC.out.keep hJ).cell (i := 2) rfl
        refine Vals.wpOp_run ho' (by unfold Region.wanted; simp only []; rw [Vals.yielded_of (d := 13) rfl hgd]; rfl) ?_
        clear hdep hfr ho' hdf hgd hcl
        go_simp
        exact hK _ _ (fun _ _ h => h) hJ (fun _ => rfl)
      | 4, ho, hd =>
        have ho' := ho
        simp only [List.getElem?_toArray, List.getElem?_cons_zero, List.getElem?_cons_succ, Option.some.injEq] at ho hd
        subst ho hd
        have hgd : a.eval (.tmp 13) = .bool false := (hdep ⟨2, .guard⟩ (by simp) rfl).2 13 rfl
        have r3 : a.eval (.tmp 3) = (.func (.func 61) #[] #[.pointer (some cp)]) := hfr 3 (by decide)
        rw [Vals.eval_tmp] at r3
        refine Vals.wpOp_run ho' (by unfold Region.wanted; simp only []; rw [Vals.yielded_of (d := 13) rfl hgd]; rfl) ?_
        clear hdep hfr ho' hdf hgd hcl
        go_simp
        exact hK _ _ (fun _ _ h => h) hJ (fun _ => rfl)
      | 5, ho, hd =>
        have ho' := ho
        simp only [List.getElem?_toArray, List.getElem?_cons_zero, List.getElem?_cons_succ, Option.some.injEq] at ho hd
        subst ho hd
        have hgd : a.eval (.tmp 13) = .bool false := (hdep ⟨2, .guard⟩ (by simp) rfl).2 13 rfl
        have r5 : a.eval (.tmp 5) = .pointer (some ⟨w.heap.size + 1, 0, none⟩) := hfr 5 (by decide)
        rw [Vals.eval_tmp] at r5
        have c0 := (HV.out.keep hJ).cell (i := 0) rfl
        have c1 := (HV.out.keep hJ).cell (i := 1) rfl
        have c2 := (HV.out.keep hJ).cell (i := 2) rfl
        have c3 := (HV.out.keep hJ).cell (i := 3) rfl
        have c4 := (HV.out.keep hJ).cell (i := 4) rfl
        have c5 := (HV.out.keep hJ).cell (i := 5) rfl
        refine Vals.wpOp_run ho' (by unfold Region.wanted; simp only []; rw [Vals.yielded_of (d := 13) rfl hgd]; rfl) ?_
        clear hdep hfr ho' hdf hgd hcl
        go_simp
        exact hK _ _ (fun _ _ h => h) hJ (fun _ => rfl)
      | 6, ho, hd =>
        have ho' := ho
        simp only [List.getElem?_toArray, List.getElem?_cons_zero, List.getElem?_cons_succ, Option.some.injEq] at ho hd
        subst ho hd
        have hgd : a.eval (.tmp 13) = .bool false := (hdep ⟨2, .guard⟩ (by simp) rfl).2 13 rfl
        have r15 : a.eval (.tmp 15) = (.func (.func 61) #[] #[.pointer (some cp)]) := (hdep ⟨4, .data⟩ (by simp) rfl).2 15 rfl
        rw [Vals.eval_tmp] at r15
        have r16 : a.eval (.tmp 16) = .agg #[.int .u32 x0, .int .u32 x1, .int .u16 x2, .int .u16 x3, .int .u32 x4, .slice q qn qc] := (hdep ⟨5, .data⟩ (by simp) rfl).2 16 rfl
        rw [Vals.eval_tmp] at r16
        refine Vals.wpOp_run ho' (by unfold Region.wanted; simp only []; rw [Vals.yielded_of (d := 13) rfl hgd]; rfl) ?_
        clear hdep hfr ho' hdf hgd hcl
        go_simp
        refine (HPUT.out W (HBE.out.trans (hJ.mono HBE.out.size))).mono ?_
        rintro e w' ⟨a1, c1, rfl, hb3, hr3⟩
        exact hK _ _ (ChkInit_mono hb3) (hJ.trans (hb3.mono hJ.size)) (fun _ => ⟨_, _, rfl, hr3.reads⟩)
      | 7, ho, hd =>
        have ho' := ho
        simp only [List.getElem?_toArray, List.getElem?_cons_zero, List.getElem?_cons_succ, Option.some.injEq] at ho hd
        subst ho hd
        have hgd : a.eval (.tmp 13) = .bool false := (hdep ⟨2, .guard⟩ (by simp) rfl).2 13 rfl
        have r14 : a.eval (.tmp 14) = .agg #[.int .u8 k, .int .u8 f, .slice p n c] := (hdep ⟨3, .data⟩ (by simp) rfl).2 14 rfl
        rw [Vals.eval_tmp] at r14
        have g17 : ∃ a1_17 c1_17, a.eval (.tmp 17) = .agg #[.int .u8 k', .int .u8 f', .slice a1_17 ys.length c1_17] ∧ Reads W a1_17 ys.length ys := (hdep ⟨6, .data⟩ (by simp) rfl).2 17 rfl
        rw [Vals.eval_tmp] at g17
        obtain ⟨a1_17, c1_17, r17, h17_0⟩ := g17
        refine Vals.wpOp_run ho' (by unfold Region.wanted; simp only []; rw [Vals.yielded_of (d := 13) rfl hgd]; rfl) ?_
        clear hdep hfr ho' hdf hgd hcl
        go_simp
        refine (psame_any k f k' f' p a1_17 n _ c _ zs ys W (HR.out.1.below (HBE.out.trans (hJ.mono HBE.out.size))) h17_0 HR.out.2.1 HR.out.2.2.1 (by have := HR.out.2.2.2.1; omega) (by have := HR.out.2.2.2.2; omega)).mono ?_
        rintro e w' ⟨rfl, hb3⟩
        exact hK _ _ (ChkInit_mono hb3) (hJ.trans (hb3.mono hJ.size)) (fun _ => by show Value.bool _ = Value.bool _; first | rfl | rw [HBB.out])
      | 8, ho, hd =>
        have ho' := ho
        simp only [List.getElem?_toArray, List.getElem?_cons_zero, List.getElem?_cons_succ, Option.some.injEq] at ho hd
        subst ho hd
        have hgd : a.eval (.tmp 13) = .bool false := (hdep ⟨2, .guard⟩ (by simp) rfl).2 13 rfl
        have r18 : a.eval (.tmp 18) = .bool bb := (hdep ⟨7, .data⟩ (by simp) rfl).2 18 rfl
        rw [Vals.eval_tmp] at r18
        refine Vals.wpOp_run ho' (by unfold Region.wanted; simp only []; rw [Vals.yielded_of (d := 13) rfl hgd]; rfl) ?_
        clear hdep hfr ho' hdf hgd hcl
        go_simp
        exact hK _ _ (fun _ _ h => h) hJ (fun _ => rfl)
      | 9, ho, hd =>
        have ho' := ho
        simp only [List.getElem?_toArray, List.getElem?_cons_zero, List.getElem?_cons_succ, Option.some.injEq] at ho hd
        subst ho hd
        have r13 : a.eval (.tmp 13) = .bool false := (hdep ⟨2, .data⟩ (by simp) rfl).2 13 rfl
        rw [Vals.eval_tmp] at r13
        have r19 : a.eval (.tmp 19) = .bool (!bb) := (hdep ⟨8, .data⟩ (by simp) rfl).2 19 rfl
        rw [Vals.eval_tmp] at r19
        refine Vals.wpOp_run ho' rfl ?_
        clear hdep hfr ho' hdf hcl
        go_simp
        exact hK _ _ (fun _ _ h => h) hJ (fun _ => rfl)
      | i + 10, ho, hd => simp at ho
    case fin =>
      intro listed W fq hall hJ hG
      have q0 : fq 11 = .bool true := hG 0 11 rfl
      have q1 : fq 12 = .bool false := hG 1 12 rfl
      have q2 : fq 13 = .bool false := hG 2 13 rfl
      have q3 : fq 14 = .agg #[.int .u8 k, .int .u8 f, .slice p n c] := hG 3 14 rfl
      have q4 : fq 15 = (.func (.func 61) #[] #[.pointer (some cp)]) := hG 4 15 rfl
      have q5 : fq 16 = .agg #[.int .u32 x0, .int .u32 x1, .int .u16 x2, .int .u16 x3, .int .u32 x4, .slice q qn qc] := hG 5 16 rfl
      obtain ⟨a1_17, c1_17, q6, hq17_0⟩ : ∃ a1_17 c1_17, fq 17 = .agg #[.int .u8 k', .int .u8 f', .slice a1_17 ys.length c1_17] ∧ Reads W a1_17 ys.length ys := hG 6 17 rfl
      have q7 : fq 18 = .bool bb := hG 7 18 rfl
      have q8 : fq 19 = .bool (!bb) := hG 8 19 rfl
      have q9 : fq 20 = .bool (!bb) := hG 9 20 rfl
      clear hG hall
      simp only [Vals.puts, Vals.pairs, List.filterMap_cons, List.filterMap_nil, id, List.map_cons, List.map_nil, List.foldl_cons, List.foldl_nil, q0, q1, q2, q3, q4, q5, q6, q7, q8, q9]
      clear q0 q1 q2 q3 q4 q5 q6 q7 q8 q9
      go_frame

      have hJw := HBE.out.trans (hJ.mono HBE.out.size)
      have HZW := Lib.hid (And.intro (HZ.out.keep hJ) hJw)
      have HVW := Lib.hid (HV.out.keep hJ)
      clear hJ hJw HZ HV HC HBE HPUT HR HBB
      cases bb with
      | false =>
        have hbn : Below W.heap.size W (W.alloc (.cells #[.int .u32 0, .int .u32 0, .int .u16 0, .int .u16 0, .int .u32 0, .slice none 0 0] 43)) := (Below.refl _ _).alloc (Nat.le_refl _) _
        have hzn := HZW.out.1.keep hbn
        have hnn : Arr (W.alloc (.cells #[.int .u32 0, .int .u32 0, .int .u16 0, .int .u16 0, .int .u32 0, .slice none 0 0] 43)) W.heap.size 43 [.int .u32 0, .int .u32 0, .int .u16 0, .int .u16 0, .int .u32 0, .slice none 0 0] := arr_new _ _ _
        have n0 := hnn.cell (i := 0) rfl
        have n1 := hnn.cell (i := 1) rfl
        have n2 := hnn.cell (i := 2) rfl
        have n3 := hnn.cell (i := 3) rfl
        have n4 := hnn.cell (i := 4) rfl
        have n5 := hnn.cell (i := 5) rfl
        have fr0 := hzn.free 0
        have fr1 := hzn.free 1
        have fr2 := hzn.free 2
        have fr3 := hzn.free 3
        have fr4 := hzn.free 4
        have fr5 := hzn.free 5
        have y0 := hzn.cell (i := 0) rfl
        have y1 := hzn.cell (i := 1) rfl
        have y2 := hzn.cell (i := 2) rfl
        have y3 := hzn.cell (i := 3) rfl
        have y4 := hzn.cell (i := 4) rfl
        have y5 := hzn.cell (i := 5) rfl
        have hA3 := ((((((hzn.set 0 (.int .u32 0)).set 1 (.int .u32 0)).set 2 (.int .u16 0)).set 3 (.int .u16 0)).set 4 (.int .u32 0)).set 5 (.slice none 0 0))
        have hB3 := (((((((HZW.out.2.trans (hbn.mono HZW.out.2.size)).setCell (p := ⟨w.heap.size + 2, 0, none⟩) (by simp) (.int .u32 0)).setCell (p := ⟨w.heap.size + 2, 1, none⟩) (by simp) (.int .u32 0)).setCell (p := ⟨w.heap.size + 2, 2, none⟩) (by simp) (.int .u16 0)).setCell (p := ⟨w.heap.size + 2, 3, none⟩) (by simp) (.int .u16 0)).setCell (p := ⟨w.heap.size + 2, 4, none⟩) (by simp) (.int .u32 0)).setCell (p := ⟨w.heap.size + 2, 5, none⟩) (by simp) (.slice none 0 0))
        obtain ⟨W3, hW3⟩ : ∃ W3, (((((((W.alloc (.cells #[.int .u32 0, .int .u32 0, .int .u16 0, .int .u16 0, .int .u32 0, .slice none 0 0] 43)).setCell ⟨w.heap.size + 2, 0, none⟩ (.int .u32 0)).setCell ⟨w.heap.size + 2, 1, none⟩ (.int .u32 0)).setCell ⟨w.heap.size + 2, 2, none⟩ (.int .u16 0)).setCell ⟨w.heap.size + 2, 3, none⟩ (.int .u16 0)).setCell ⟨w.heap.size + 2, 4, none⟩ (.int .u32 0)).setCell ⟨w.heap.size + 2, 5, none⟩ (.slice none 0 0)) = W3 := ⟨_, rfl⟩
        rw [hW3] at hA3 hB3
        have z0 := hA3.cell (i := 0) rfl
        have z1 := hA3.cell (i := 1) rfl
        have z2 := hA3.cell (i := 2) rfl
        have z3 := hA3.cell (i := 3) rfl
        have z4 := hA3.cell (i := 4) rfl
        have z5 := hA3.cell (i := 5) rfl
        have HE := Lib.hid hB3
        clear hbn hzn hnn hA3 hB3
        go_wp2
        exact bodyPost_ret (by simp [results, Try.results59, go_sem, z0, z1, z2, z3, z4, z5] <;> rfl) rfl ⟨.inr ⟨rfl, rfl⟩, HE.out⟩
      | true =>
        have hzn := HZW.out.1
        have hvn := HVW.out
        have n0 := hvn.cell (i := 0) rfl
        have n1 := hvn.cell (i := 1) rfl
        have n2 := hvn.cell (i := 2) rfl
        have n3 := hvn.cell (i := 3) rfl
        have n4 := hvn.cell (i := 4) rfl
        have n5 := hvn.cell (i := 5) rfl
        have fr0 := hzn.free 0
        have fr1 := hzn.free 1
        have fr2 := hzn.free 2
        have fr3 := hzn.free 3
        have fr4 := hzn.free 4
        have fr5 := hzn.free 5
        have y0 := hzn.cell (i := 0) rfl
        have y1 := hzn.cell (i := 1) rfl
        have y2 := hzn.cell (i := 2) rfl
        have y3 := hzn.cell (i := 3) rfl
        have y4 := hzn.cell (i := 4) rfl
        have y5 := hzn.cell (i := 5) rfl
        have hA3 := ((((((hzn.set 0 (.int .u32 x0)).set 1 (.int .u32 x1)).set 2 (.int .u16 x2)).set 3 (.int .u16 x3)).set 4 (.int .u32 x4)).set 5 (.slice q qn qc))
        have hB3 := ((((((HZW.out.2.setCell (p := ⟨w.heap.size + 2, 0, none⟩) (by simp) (.int .u32 x0)).setCell (p := ⟨w.heap.size + 2, 1, none⟩) (by simp) (.int .u32 x1)).setCell (p := ⟨w.heap.size + 2, 2, none⟩) (by simp) (.int .u16 x2)).setCell (p := ⟨w.heap.size + 2, 3, none⟩) (by simp) (.int .u16 x3)).setCell (p := ⟨w.heap.size + 2, 4, none⟩) (by simp) (.int .u32 x4)).setCell (p := ⟨w.heap.size + 2, 5, none⟩) (by simp) (.slice q qn qc))
        obtain ⟨W3, hW3⟩ : ∃ W3, ((((((W.setCell ⟨w.heap.size + 2, 0, none⟩ (.int .u32 x0)).setCell ⟨w.heap.size + 2, 1, none⟩ (.int .u32 x1)).setCell ⟨w.heap.size + 2, 2, none⟩ (.int .u16 x2)).setCell ⟨w.heap.size + 2, 3, none⟩ (.int .u16 x3)).setCell ⟨w.heap.size + 2, 4, none⟩ (.int .u32 x4)).setCell ⟨w.heap.size + 2, 5, none⟩ (.slice q qn qc)) = W3 := ⟨_, rfl⟩
        rw [hW3] at hA3 hB3
        have z0 := hA3.cell (i := 0) rfl
        have z1 := hA3.cell (i := 1) rfl
        have z2 := hA3.cell (i := 2) rfl
        have z3 := hA3.cell (i := 3) rfl
        have z4 := hA3.cell (i := 4) rfl
        have z5 := hA3.cell (i := 5) rfl
        have HE := Lib.hid hB3
        clear hzn hvn hA3 hB3
        go_wp2
        exact bodyPost_ret (by simp [results, Try.results59, go_sem, z0, z1, z2, z3, z4, z5] <;> rfl) rfl ⟨.inl ⟨rfl, rfl⟩, HE.out⟩

end Go.Proofs.Ytlihcckgnnnekaa
