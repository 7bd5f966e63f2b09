/-
  The program's rto: Back, Sample. Written by genrt.py.
-/
import Derived.Test.YtkgfogepbclhkaaRt2
import Derived.Test.YtkgfogepbclhkaaGoodT
import Derived.IntWalk
namespace Go.Proofs.Ytkgfogepbclhkaa
open Go.RowKit
set_option linter.unusedVariables false
set_option linter.unusedSimpArgs false

/-- What the operations of the drawn region leave behind. -/
def RBk (w : World) (g : Nat) (x lo hi : Int) (any : Bool) (S V : Int) (i : Nat) (v : Value) (W : World) : Prop := match i with | 0 => v = .pointer (some ⟨g, 0, none⟩) | 1 => v = .pointer (some ⟨g, 0, none⟩) | 2 => v = .pointer (some ⟨g, 0, none⟩) | 3 => v = .pointer (some ⟨g, 0, none⟩) | 4 => v = .int .i64 x | 5 => v = .int .i64 (2 * x) | 6 => v = .pointer (some ⟨g, 0, none⟩) | 7 => v = .pointer (some ⟨g, 0, none⟩) | 8 => v = .pointer (some ⟨g, 1, none⟩) | 9 => v = .int .i64 lo | 10 => v = .pointer (some ⟨g, 0, none⟩) | 11 => v = .pointer (some ⟨g, 0, none⟩) | 12 => v = .pointer (some ⟨g, 2, none⟩) | 13 => v = .int .i64 hi | 14 => v = .int .i64 (min (2 * x) hi) | 15 => v = .pointer (some ⟨g, 0, none⟩) | 16 => v = .pointer (some ⟨g, 0, none⟩) | _ => True
theorem RBk_mono {w : World} {g : Nat} {x lo hi : Int} {any : Bool} {S V : Int} {W W' : World} (hb : Below W.heap.size W W') (jo : Nat) (xo : Value) (h : RBk w g x lo hi any S V jo xo W) : RBk w g x lo hi any S V jo xo W' := by
  unfold RBk at h ⊢
  split at h <;> try exact h
theorem RBk_any {w : World} {g : Nat} {x lo hi : Int} {any : Bool} {S V : Int} {W W' : World} (jo : Nat) (xo : Value) (h : RBk w g x lo hi any S V jo xo W) : RBk w g x lo hi any S V jo xo W' := by
  unfold RBk at h ⊢
  split at h <;> exact h

/-- What the operations of the drawn region leave behind. -/
def RSm (w : World) (g : Nat) (x lo hi : Int) (S V t : Int) (i : Nat) (v : Value) (W : World) : Prop := match i with | 0 => v = .pointer (some ⟨g, 0, none⟩) | 1 => v = .pointer (some ⟨g, 0, none⟩) | 2 => v = .pointer (some ⟨g, 0, none⟩) | 3 => v = .pointer (some ⟨g, 4, none⟩) | 4 => v = .int .i64 S | 5 => v = .int .i64 (S / 8) | 6 => v = .pointer (some ⟨g, 0, none⟩) | 7 => v = .pointer (some ⟨g, 0, none⟩) | 8 => v = .pointer (some ⟨g, 5, none⟩) | 9 => v = .int .i64 V | 10 => v = .int .i64 (max 1 V) | 11 => v = .int .i64 (S / 8 + max 1 V) | 12 => v = .pointer (some ⟨g, 0, none⟩) | 13 => v = .pointer (some ⟨g, 0, none⟩) | 14 => v = .pointer (some ⟨g, 1, none⟩) | 15 => v = .int .i64 lo | 16 => v = .pointer (some ⟨g, 0, none⟩) | 17 => v = .pointer (some ⟨g, 0, none⟩) | 18 => v = .pointer (some ⟨g, 2, none⟩) | 19 => v = .int .i64 hi | 20 => v = .int .i64 (nX S V lo hi) | 21 => v = .pointer (some ⟨g, 0, none⟩) | 22 => v = .pointer (some ⟨g, 0, none⟩) | _ => True
theorem RSm_mono {w : World} {g : Nat} {x lo hi : Int} {S V t : Int} {W W' : World} (hb : Below W.heap.size W W') (jo : Nat) (xo : Value) (h : RSm w g x lo hi S V t jo xo W) : RSm w g x lo hi S V t jo xo W' := by
  unfold RSm at h ⊢
  split at h <;> try exact h
theorem RSm_any {w : World} {g : Nat} {x lo hi : Int} {S V t : Int} {W W' : World} (jo : Nat) (xo : Value) (h : RSm w g x lo hi S V t jo xo W) : RSm w g x lo hi S V t jo xo W' := by
  unfold RSm at h ⊢
  split at h <;> exact h

set_option maxRecDepth 10000 in
set_option maxHeartbeats 3200000 in
theorem back_any (w : World) (g : Nat) (x lo hi : Int) (any : Bool) (S V : Int) (h : Est 71 w g x lo hi any S V) :
    Calls Try.prog 59 #[.pointer (some ⟨g, 0, none⟩)] w fun e w' => e = .returned (.tuple #[]) ∧ Est 71 w' g (min (2 * x) hi) lo hi any S V ∧ Turn [g] w w' := by
  obtain ⟨a1, a2, a3, a4, a5, a6, a7, a8⟩ := h.good
  have hl := fun W => limit_any (2 * x) lo hi W
  rw [h.good.lim_back] at hl
  have HW := Lib.hid (show IntKind.i64.wrap (2 * x) = 2 * x from IntWalk.i64_in _ (by omega))
  have HL := Lib.hid hl
  have HG := Lib.hid h.good.back
  have HB := Lib.hid h.blk
  clear hl h
  go_enter Try.func59, Try.ntmps59
  go_upto_region 1 with fail
  refine wp_region_any (by kernel_rfl) ?_
  refine Vals.wpAny_goodLastT (RBk w g x lo hi any S V) (fun _ W => Below w.heap.size w W) [some 4, some 5, some 6, some 7, some 8, some 9, some 10, some 11, some 12, some 13, some 14, some 15, some 16, some 17, some 18, some 19, some 20] 17 21 _ _ rfl (by kernel_rfl) (by kernel_rfl) (by kernel_rfl) (by decide) ?step ?fin (Below.refl _ _).drew
  case step =>
    intro i o d ho hd hiN listed a W hls hun hcl hJ hdf hdep hfr K hK
    match i, ho, hd with
    | 0, ho, hd =>
      have ho' := ho
      simp only [List.getElem?_toArray, List.getElem?_cons_zero, Option.some.injEq] at ho hd
      subst ho hd
      have r0 : a.eval (.tmp 0) = .pointer (some ⟨g, 0, none⟩) := hfr 0 (by decide)
      rw [Vals.eval_tmp] at r0
      refine Vals.wpOp_run ho' rfl ?_
      clear hdep hfr ho' hdf
      go_simp
      exact hK _ _ (fun _ _ _ _ h => h) hJ (fun _ => rfl)
    | 1, ho, hd =>
      have ho' := ho
      simp only [List.getElem?_toArray, List.getElem?_cons_zero, List.getElem?_cons_succ, Option.some.injEq] at ho hd
      subst ho hd
      have r0 : a.eval (.tmp 0) = .pointer (some ⟨g, 0, none⟩) := hfr 0 (by decide)
      rw [Vals.eval_tmp] at r0
      refine Vals.wpOp_run ho' rfl ?_
      clear hdep hfr ho' hdf
      go_simp
      exact hK _ _ (fun _ _ _ _ h => h) hJ (fun _ => rfl)
    | 2, ho, hd =>
      have ho' := ho
      simp only [List.getElem?_toArray, List.getElem?_cons_zero, List.getElem?_cons_succ, Option.some.injEq] at ho hd
      subst ho hd
      have r5 : a.eval (.tmp 5) = .pointer (some ⟨g, 0, none⟩) := hdep ⟨1, .data⟩ (by simp) rfl 5 rfl
      rw [Vals.eval_tmp] at r5
      refine Vals.wpOp_run ho' rfl ?_
      clear hdep hfr ho' hdf
      go_simp
      exact hK _ _ (fun _ _ _ _ h => h) hJ (fun _ => rfl)
    | 3, ho, hd =>
      have ho' := ho
      simp only [List.getElem?_toArray, List.getElem?_cons_zero, List.getElem?_cons_succ, Option.some.injEq] at ho hd
      subst ho hd
      have r6 : a.eval (.tmp 6) = .pointer (some ⟨g, 0, none⟩) := hdep ⟨2, .data⟩ (by simp) rfl 6 rfl
      rw [Vals.eval_tmp] at r6
      refine Vals.wpOp_run ho' rfl ?_
      clear hdep hfr ho' hdf
      go_simp
      exact hK _ _ (fun _ _ _ _ h => h) hJ (fun _ => rfl)
    | 4, ho, hd =>
      have ho' := ho
      simp only [List.getElem?_toArray, List.getElem?_cons_zero, List.getElem?_cons_succ, Option.some.injEq] at ho hd
      subst ho hd
      have r7 : a.eval (.tmp 7) = .pointer (some ⟨g, 0, none⟩) := hdep ⟨3, .data⟩ (by simp) rfl 7 rfl
      rw [Vals.eval_tmp] at r7
      have c0 := (HB.out.keep hJ).cell (i := 0) rfl
      refine Vals.wpOp_run ho' rfl ?_
      clear hdep hfr ho' hdf
      go_simp
      exact hK _ _ (fun _ _ _ _ h => h) hJ (fun _ => rfl)
    | 5, ho, hd =>
      have ho' := ho
      simp only [List.getElem?_toArray, List.getElem?_cons_zero, List.getElem?_cons_succ, Option.some.injEq] at ho hd
      subst ho hd
      have r8 : a.eval (.tmp 8) = .int .i64 x := hdep ⟨4, .data⟩ (by simp) rfl 8 rfl
      rw [Vals.eval_tmp] at r8
      refine Vals.wpOp_run ho' rfl ?_
      clear hdep hfr ho' hdf
      go_simp
      exact hK _ _ (fun _ _ _ _ h => h) hJ (fun _ => by first | rfl | exact congrArg (Value.int _) HW.out)
    | 6, ho, hd =>
      have ho' := ho
      simp only [List.getElem?_toArray, List.getElem?_cons_zero, List.getElem?_cons_succ, Option.some.injEq] at ho hd
      subst ho hd
      have r0 : a.eval (.tmp 0) = .pointer (some ⟨g, 0, none⟩) := hfr 0 (by decide)
      rw [Vals.eval_tmp] at r0
      refine Vals.wpOp_run ho' rfl ?_
      clear hdep hfr ho' hdf
      go_simp
      exact hK _ _ (fun _ _ _ _ h => h) hJ (fun _ => rfl)
    | 7, ho, hd =>
      have ho' := ho
      simp only [List.getElem?_toArray, List.getElem?_cons_zero, List.getElem?_cons_succ, Option.some.injEq] at ho hd
      subst ho hd
      have r10 : a.eval (.tmp 10) = .pointer (some ⟨g, 0, none⟩) := hdep ⟨6, .data⟩ (by simp) rfl 10 rfl
      rw [Vals.eval_tmp] at r10
      refine Vals.wpOp_run ho' rfl ?_
      clear hdep hfr ho' hdf
      go_simp
      exact hK _ _ (fun _ _ _ _ h => h) hJ (fun _ => rfl)
    | 8, ho, hd =>
      have ho' := ho
      simp only [List.getElem?_toArray, List.getElem?_cons_zero, List.getElem?_cons_succ, Option.some.injEq] at ho hd
      subst ho hd
      have r11 : a.eval (.tmp 11) = .pointer (some ⟨g, 0, none⟩) := hdep ⟨7, .data⟩ (by simp) rfl 11 rfl
      rw [Vals.eval_tmp] at r11
      refine Vals.wpOp_run ho' rfl ?_
      clear hdep hfr ho' hdf
      go_simp
      exact hK _ _ (fun _ _ _ _ h => h) hJ (fun _ => rfl)
    | 9, ho, hd =>
      have ho' := ho
      simp only [List.getElem?_toArray, List.getElem?_cons_zero, List.getElem?_cons_succ, Option.some.injEq] at ho hd
      subst ho hd
      have r12 : a.eval (.tmp 12) = .pointer (some ⟨g, 1, none⟩) := hdep ⟨8, .data⟩ (by simp) rfl 12 rfl
      rw [Vals.eval_tmp] at r12
      have c0 := (HB.out.keep hJ).cell (i := 1) rfl
      refine Vals.wpOp_run ho' rfl ?_
      clear hdep hfr ho' hdf
      go_simp
      exact hK _ _ (fun _ _ _ _ h => h) hJ (fun _ => rfl)
    | 10, ho, hd =>
      have ho' := ho
      simp only [List.getElem?_toArray, List.getElem?_cons_zero, List.getElem?_cons_succ, Option.some.injEq] at ho hd
      subst ho hd
      have r0 : a.eval (.tmp 0) = .pointer (some ⟨g, 0, none⟩) := hfr 0 (by decide)
      rw [Vals.eval_tmp] at r0
      refine Vals.wpOp_run ho' rfl ?_
      clear hdep hfr ho' hdf
      go_simp
      exact hK _ _ (fun _ _ _ _ h => h) hJ (fun _ => rfl)
    | 11, ho, hd =>
      have ho' := ho
      simp only [List.getElem?_toArray, List.getElem?_cons_zero, List.getElem?_cons_succ, Option.some.injEq] at ho hd
      subst ho hd
      have r14 : a.eval (.tmp 14) = .pointer (some ⟨g, 0, none⟩) := hdep ⟨10, .data⟩ (by simp) rfl 14 rfl
      rw [Vals.eval_tmp] at r14
      refine Vals.wpOp_run ho' rfl ?_
      clear hdep hfr ho' hdf
      go_simp
      exact hK _ _ (fun _ _ _ _ h => h) hJ (fun _ => rfl)
    | 12, ho, hd =>
      have ho' := ho
      simp only [List.getElem?_toArray, List.getElem?_cons_zero, List.getElem?_cons_succ, Option.some.injEq] at ho hd
      subst ho hd
      have r15 : a.eval (.tmp 15) = .pointer (some ⟨g, 0, none⟩) := hdep ⟨11, .data⟩ (by simp) rfl 15 rfl
      rw [Vals.eval_tmp] at r15
      refine Vals.wpOp_run ho' rfl ?_
      clear hdep hfr ho' hdf
      go_simp
      exact hK _ _ (fun _ _ _ _ h => h) hJ (fun _ => rfl)
    | 13, ho, hd =>
      have ho' := ho
      simp only [List.getElem?_toArray, List.getElem?_cons_zero, List.getElem?_cons_succ, Option.some.injEq] at ho hd
      subst ho hd
      have r16 : a.eval (.tmp 16) = .pointer (some ⟨g, 2, none⟩) := hdep ⟨12, .data⟩ (by simp) rfl 16 rfl
      rw [Vals.eval_tmp] at r16
      have c0 := (HB.out.keep hJ).cell (i := 2) rfl
      refine Vals.wpOp_run ho' rfl ?_
      clear hdep hfr ho' hdf
      go_simp
      exact hK _ _ (fun _ _ _ _ h => h) hJ (fun _ => rfl)
    | 14, ho, hd =>
      have ho' := ho
      simp only [List.getElem?_toArray, List.getElem?_cons_zero, List.getElem?_cons_succ, Option.some.injEq] at ho hd
      subst ho hd
      have r9 : a.eval (.tmp 9) = .int .i64 (2 * x) := hdep ⟨5, .data⟩ (by simp) rfl 9 rfl
      rw [Vals.eval_tmp] at r9
      have r13 : a.eval (.tmp 13) = .int .i64 lo := hdep ⟨9, .data⟩ (by simp) rfl 13 rfl
      rw [Vals.eval_tmp] at r13
      have r17 : a.eval (.tmp 17) = .int .i64 hi := hdep ⟨13, .data⟩ (by simp) rfl 17 rfl
      rw [Vals.eval_tmp] at r17
      refine Vals.wpOp_run ho' rfl ?_
      clear hdep hfr ho' hdf
      go_simp
      refine (HL.out W).mono ?_
      rintro e w' ⟨rfl, rfl⟩
      exact hK _ _ (fun _ _ _ _ h => h) hJ (fun _ => rfl)
    | 15, ho, hd =>
      have ho' := ho
      simp only [List.getElem?_toArray, List.getElem?_cons_zero, List.getElem?_cons_succ, Option.some.injEq] at ho hd
      subst ho hd
      have r4 : a.eval (.tmp 4) = .pointer (some ⟨g, 0, none⟩) := hdep ⟨0, .data⟩ (by simp) rfl 4 rfl
      rw [Vals.eval_tmp] at r4
      refine Vals.wpOp_run ho' rfl ?_
      clear hdep hfr ho' hdf
      go_simp
      exact hK _ _ (fun _ _ _ _ h => h) hJ (fun _ => rfl)
    | 16, ho, hd =>
      have ho' := ho
      simp only [List.getElem?_toArray, List.getElem?_cons_zero, List.getElem?_cons_succ, Option.some.injEq] at ho hd
      subst ho hd
      have r19 : a.eval (.tmp 19) = .pointer (some ⟨g, 0, none⟩) := hdep ⟨15, .data⟩ (by simp) rfl 19 rfl
      rw [Vals.eval_tmp] at r19
      refine Vals.wpOp_run ho' rfl ?_
      clear hdep hfr ho' hdf
      go_simp
      exact hK _ _ (fun _ _ _ _ h => h) hJ (fun _ => rfl)
    | i + 17, ho, hd => omega
  case fin =>
    intro listed W f' hall hJ hG
    have q0 : f' 4 = .pointer (some ⟨g, 0, none⟩) := hG 0 4 rfl
    have q1 : f' 5 = .pointer (some ⟨g, 0, none⟩) := hG 1 5 rfl
    have q2 : f' 6 = .pointer (some ⟨g, 0, none⟩) := hG 2 6 rfl
    have q3 : f' 7 = .pointer (some ⟨g, 0, none⟩) := hG 3 7 rfl
    have q4 : f' 8 = .int .i64 x := hG 4 8 rfl
    have q5 : f' 9 = .int .i64 (2 * x) := hG 5 9 rfl
    have q6 : f' 10 = .pointer (some ⟨g, 0, none⟩) := hG 6 10 rfl
    have q7 : f' 11 = .pointer (some ⟨g, 0, none⟩) := hG 7 11 rfl
    have q8 : f' 12 = .pointer (some ⟨g, 1, none⟩) := hG 8 12 rfl
    have q9 : f' 13 = .int .i64 lo := hG 9 13 rfl
    have q10 : f' 14 = .pointer (some ⟨g, 0, none⟩) := hG 10 14 rfl
    have q11 : f' 15 = .pointer (some ⟨g, 0, none⟩) := hG 11 15 rfl
    have q12 : f' 16 = .pointer (some ⟨g, 2, none⟩) := hG 12 16 rfl
    have q13 : f' 17 = .int .i64 hi := hG 13 17 rfl
    have q14 : f' 18 = .int .i64 (min (2 * x) hi) := hG 14 18 rfl
    have q15 : f' 19 = .pointer (some ⟨g, 0, none⟩) := hG 15 19 rfl
    have q16 : f' 20 = .pointer (some ⟨g, 0, none⟩) := hG 16 20 rfl
    clear hG hall
    refine Vals.wpOp_run rfl rfl ?_
    simp only [Vals.puts, Vals.pairs, List.filterMap_cons, List.filterMap_nil, id, List.map_cons, List.map_nil, List.foldl_cons, List.foldl_nil, q0, q1, q2, q3, q4, q5, q6, q7, q8, q9, q10, q11, q12, q13, q14, q15, q16]
    clear q0 q1 q2 q3 q4 q5 q6 q7 q8 q9 q10 q11 q12 q13 q14 q15 q16
    go_frame
    have hBW := HB.out.keep hJ
    have hlt := hBW.lt
    have c0 := hBW.cell (i := 0) rfl
    have f0 := hBW.free 0
    have hA := Est.set hBW (min (2 * x) hi)
    have hT : Turn [g] w (W.setCell ⟨g, 0, none⟩ (.int .i64 (min (2 * x) hi))) := ((Turn.of_below hJ).mono (by simp)).setCell (by simp) _
    have HA := Lib.hid (And.intro hA hT)
    clear hA hT hBW
    go_simp
    go_wp2
    go_end0
    exact ⟨rfl, ⟨HA.out.1, HG.out⟩, HA.out.2⟩

theorem sample_nil (w : World) (t : Int) :
    Calls Try.prog 50 #[.pointer none, .int .i64 t] w fun e w' => e = .returned (.int .i64 2) ∧ w = w' := by
  go_enter Try.func50, Try.ntmps50
  go_wp2
  go_ret
  exact ⟨rfl, rfl⟩
theorem sample_neg (w : World) (g : Nat) (t : Int) (ht : t < 0) :
    Calls Try.prog 50 #[.pointer (some ⟨g, 0, none⟩), .int .i64 t] w fun e w' => e = .returned (.int .i64 1) ∧ w = w' := by
  have h1 : decide (t < 0) = true := by simpa using ht
  go_enter Try.func50, Try.ntmps50
  go_wp2
  go_ret
  exact ⟨rfl, rfl⟩
set_option maxRecDepth 10000 in
set_option maxHeartbeats 3200000 in
theorem sample_any (w0 : World) (g : Nat) (x lo hi : Int) (any0 : Bool) (S0 V0 t0 : Int) (h : Est 71 w0 g x lo hi any0 S0 V0) (ht : 0 ≤ t0) :
    Calls Try.prog 50 #[.pointer (some ⟨g, 0, none⟩), .int .i64 t0] w0 fun e w' => e = .returned (.int .i64 0) ∧
      Est 71 w' g (nX (nS any0 S0 (min t0 1048576)) (nV any0 S0 V0 (min t0 1048576)) lo hi) lo hi true (nS any0 S0 (min t0 1048576)) (nV any0 S0 V0 (min t0 1048576)) ∧ Turn [g] w0 w' := by
  have h1 : decide (t0 < 0) = false := by simp; omega
  have hl0 := limit_any t0 0 1048576 w0
  have e0 : lim t0 0 1048576 = min t0 1048576 := by unfold lim; omega
  rw [e0] at hl0
  have hg0 := h.good.sample (t := min t0 1048576) (by omega) (by omega)
  have hb := fun t => begin_any w0 g x lo hi any0 S0 V0 t h.blk
  have hn := fun t (k : any0 = true) => learn_any w0 g x lo hi any0 S0 V0 t (k ▸ h)
  have c3 := h.blk.cell (i := 3) rfl
  obtain ⟨t, htt⟩ : ∃ t, t = min t0 1048576 := ⟨_, rfl⟩
  have ht1 : 0 ≤ t ∧ t ≤ 1048576 := by omega
  rw [← htt] at hl0 hg0 ⊢
  clear e0 htt h ht
  replace hb := hb t ht1.1 ht1.2
  replace hn := fun k => hn t k ht1.1 ht1.2
  obtain ⟨S, hS⟩ : ∃ S, S = nS any0 S0 t := ⟨_, rfl⟩
  obtain ⟨V, hV⟩ : ∃ V, V = nV any0 S0 V0 t := ⟨_, rfl⟩
  have hb' : any0 = false → Calls Try.prog 62 #[.pointer (some ⟨g, 0, none⟩), .int .i64 t] w0 fun e w' => e = .returned (.tuple #[]) ∧ Arr w' g 71 (estC x lo hi true S V) ∧ Turn [g] w0 w' := by
    rintro rfl; rw [hS, hV]; exact hb
  have hn' : any0 = true → Calls Try.prog 61 #[.pointer (some ⟨g, 0, none⟩), .int .i64 t] w0 fun e w' => e = .returned (.tuple #[]) ∧ Arr w' g 71 (estC x lo hi true S V) ∧ Turn [g] w0 w' := by
    intro k; have := hn k; subst k; rw [hS, hV]; exact this
  rw [← hS, ← hV] at hg0 ⊢
  clear hS hV hb hn
  obtain ⟨a1, a2, a3, a4, a5, a6, a7, a8⟩ := hg0
  have HW := Lib.hid (show IntKind.i64.wrap (S / 8 + max 1 V) = S / 8 + max 1 V from IntWalk.i64_in _ (by omega))
  have HD := Lib.hid (show IntKind.i64.wrap (S.tdiv 8) = S / 8 by rw [Int.tdiv_eq_ediv_of_nonneg a5]; exact IntWalk.i64_in _ (by omega))
  have HL := Lib.hid (fun W => limit_any (S / 8 + max 1 V) lo hi W)
  have HG := Lib.hid (show Good (nX S V lo hi) lo hi true S V from ⟨a1, a2, a3, a4, a5, a6, a7, a8⟩)
  have HBN := Lib.hid (And.intro hb' hn')
  clear hb' hn' a2 a3
  cases any0
  case false =>
    have hcall := HBN.out.1 rfl
    go_enter Try.func50, Try.ntmps50
    go_wp2_with fail
    refine hl0.mono ?_
    rintro e w' ⟨rfl, rfl⟩
    clear hl0
    go_wp2_with fail
    refine hcall.mono ?_
    rintro e w ⟨rfl, hB, hT1⟩
    have HB := Lib.hid hB
    have HT1 := Lib.hid hT1
    clear hcall hB hT1
    go_upto_region 9 with fail
    refine wp_region_any (by kernel_rfl) ?_
    refine Vals.wpAny_goodLastT (RSm w g x lo hi S V t) (fun _ W => Below w.heap.size w W) [some 21, some 22, some 23, some 24, some 25, some 26, some 27, some 28, some 29, some 30, some 31, some 32, some 33, some 34, some 35, some 36, some 37, some 38, some 39, some 40, some 41, some 42, some 43] 23 44 _ _ rfl (by kernel_rfl) (by kernel_rfl) (by kernel_rfl) (by decide) ?step_false ?fin_false (Below.refl _ _).drew
    case step_false =>
      intro i o d ho hd hiN listed a W hls hun hcl hJ hdf hdep hfr K hK
      match i, ho, hd with
      | 0, ho, hd =>
        have ho' := ho
        simp only [List.getElem?_toArray, List.getElem?_cons_zero, Option.some.injEq] at ho hd
        subst ho hd
        have r0 : a.eval (.tmp 0) = .pointer (some ⟨g, 0, none⟩) := hfr 0 (by decide)
        rw [Vals.eval_tmp] at r0
        refine Vals.wpOp_run ho' rfl ?_
        clear hdep hfr ho' hdf
        go_simp
        exact hK _ _ (fun _ _ _ _ h => h) hJ (fun _ => rfl)
      | 1, ho, hd =>
        have ho' := ho
        simp only [List.getElem?_toArray, List.getElem?_cons_zero, List.getElem?_cons_succ, Option.some.injEq] at ho hd
        subst ho hd
        have r0 : a.eval (.tmp 0) = .pointer (some ⟨g, 0, none⟩) := hfr 0 (by decide)
        rw [Vals.eval_tmp] at r0
        refine Vals.wpOp_run ho' rfl ?_
        clear hdep hfr ho' hdf
        go_simp
        exact hK _ _ (fun _ _ _ _ h => h) hJ (fun _ => rfl)
      | 2, ho, hd =>
        have ho' := ho
        simp only [List.getElem?_toArray, List.getElem?_cons_zero, List.getElem?_cons_succ, Option.some.injEq] at ho hd
        subst ho hd
        have r22 : a.eval (.tmp 22) = .pointer (some ⟨g, 0, none⟩) := hdep ⟨1, .data⟩ (by simp) rfl 22 rfl
        rw [Vals.eval_tmp] at r22
        refine Vals.wpOp_run ho' rfl ?_
        clear hdep hfr ho' hdf
        go_simp
        exact hK _ _ (fun _ _ _ _ h => h) hJ (fun _ => rfl)
      | 3, ho, hd =>
        have ho' := ho
        simp only [List.getElem?_toArray, List.getElem?_cons_zero, List.getElem?_cons_succ, Option.some.injEq] at ho hd
        subst ho hd
        have r23 : a.eval (.tmp 23) = .pointer (some ⟨g, 0, none⟩) := hdep ⟨2, .data⟩ (by simp) rfl 23 rfl
        rw [Vals.eval_tmp] at r23
        refine Vals.wpOp_run ho' rfl ?_
        clear hdep hfr ho' hdf
        go_simp
        exact hK _ _ (fun _ _ _ _ h => h) hJ (fun _ => rfl)
      | 4, ho, hd =>
        have ho' := ho
        simp only [List.getElem?_toArray, List.getElem?_cons_zero, List.getElem?_cons_succ, Option.some.injEq] at ho hd
        subst ho hd
        have r24 : a.eval (.tmp 24) = .pointer (some ⟨g, 4, none⟩) := hdep ⟨3, .data⟩ (by simp) rfl 24 rfl
        rw [Vals.eval_tmp] at r24
        have c0 := (HB.out.keep hJ).cell (i := 4) rfl
        refine Vals.wpOp_run ho' rfl ?_
        clear hdep hfr ho' hdf
        go_simp
        exact hK _ _ (fun _ _ _ _ h => h) hJ (fun _ => rfl)
      | 5, ho, hd =>
        have ho' := ho
        simp only [List.getElem?_toArray, List.getElem?_cons_zero, List.getElem?_cons_succ, Option.some.injEq] at ho hd
        subst ho hd
        have r25 : a.eval (.tmp 25) = .int .i64 S := hdep ⟨4, .data⟩ (by simp) rfl 25 rfl
        rw [Vals.eval_tmp] at r25
        refine Vals.wpOp_run ho' rfl ?_
        clear hdep hfr ho' hdf
        go_simp
        exact hK _ _ (fun _ _ _ _ h => h) hJ (fun _ => by first | rfl | exact congrArg (Value.int _) HD.out)
      | 6, ho, hd =>
        have ho' := ho
        simp only [List.getElem?_toArray, List.getElem?_cons_zero, List.getElem?_cons_succ, Option.some.injEq] at ho hd
        subst ho hd
        have r0 : a.eval (.tmp 0) = .pointer (some ⟨g, 0, none⟩) := hfr 0 (by decide)
        rw [Vals.eval_tmp] at r0
        refine Vals.wpOp_run ho' rfl ?_
        clear hdep hfr ho' hdf
        go_simp
        exact hK _ _ (fun _ _ _ _ h => h) hJ (fun _ => rfl)
      | 7, ho, hd =>
        have ho' := ho
        simp only [List.getElem?_toArray, List.getElem?_cons_zero, List.getElem?_cons_succ, Option.some.injEq] at ho hd
        subst ho hd
        have r27 : a.eval (.tmp 27) = .pointer (some ⟨g, 0, none⟩) := hdep ⟨6, .data⟩ (by simp) rfl 27 rfl
        rw [Vals.eval_tmp] at r27
        refine Vals.wpOp_run ho' rfl ?_
        clear hdep hfr ho' hdf
        go_simp
        exact hK _ _ (fun _ _ _ _ h => h) hJ (fun _ => rfl)
      | 8, ho, hd =>
        have ho' := ho
        simp only [List.getElem?_toArray, List.getElem?_cons_zero, List.getElem?_cons_succ, Option.some.injEq] at ho hd
        subst ho hd
        have r28 : a.eval (.tmp 28) = .pointer (some ⟨g, 0, none⟩) := hdep ⟨7, .data⟩ (by simp) rfl 28 rfl
        rw [Vals.eval_tmp] at r28
        refine Vals.wpOp_run ho' rfl ?_
        clear hdep hfr ho' hdf
        go_simp
        exact hK _ _ (fun _ _ _ _ h => h) hJ (fun _ => rfl)
      | 9, ho, hd =>
        have ho' := ho
        simp only [List.getElem?_toArray, List.getElem?_cons_zero, List.getElem?_cons_succ, Option.some.injEq] at ho hd
        subst ho hd
        have r29 : a.eval (.tmp 29) = .pointer (some ⟨g, 5, none⟩) := hdep ⟨8, .data⟩ (by simp) rfl 29 rfl
        rw [Vals.eval_tmp] at r29
        have c0 := (HB.out.keep hJ).cell (i := 5) rfl
        refine Vals.wpOp_run ho' rfl ?_
        clear hdep hfr ho' hdf
        go_simp
        exact hK _ _ (fun _ _ _ _ h => h) hJ (fun _ => rfl)
      | 10, ho, hd =>
        have ho' := ho
        simp only [List.getElem?_toArray, List.getElem?_cons_zero, List.getElem?_cons_succ, Option.some.injEq] at ho hd
        subst ho hd
        have r30 : a.eval (.tmp 30) = .int .i64 V := hdep ⟨9, .data⟩ (by simp) rfl 30 rfl
        rw [Vals.eval_tmp] at r30
        refine Vals.wpOp_run ho' rfl ?_
        clear hdep hfr ho' hdf
        go_simp
        exact hK _ _ (fun _ _ _ _ h => h) hJ (fun _ => rfl)
      | 11, ho, hd =>
        have ho' := ho
        simp only [List.getElem?_toArray, List.getElem?_cons_zero, List.getElem?_cons_succ, Option.some.injEq] at ho hd
        subst ho hd
        have r26 : a.eval (.tmp 26) = .int .i64 (S / 8) := hdep ⟨5, .data⟩ (by simp) rfl 26 rfl
        rw [Vals.eval_tmp] at r26
        have r31 : a.eval (.tmp 31) = .int .i64 (max 1 V) := hdep ⟨10, .data⟩ (by simp) rfl 31 rfl
        rw [Vals.eval_tmp] at r31
        refine Vals.wpOp_run ho' rfl ?_
        clear hdep hfr ho' hdf
        go_simp
        exact hK _ _ (fun _ _ _ _ h => h) hJ (fun _ => by first | rfl | exact congrArg (Value.int _) HW.out)
      | 12, ho, hd =>
        have ho' := ho
        simp only [List.getElem?_toArray, List.getElem?_cons_zero, List.getElem?_cons_succ, Option.some.injEq] at ho hd
        subst ho hd
        have r0 : a.eval (.tmp 0) = .pointer (some ⟨g, 0, none⟩) := hfr 0 (by decide)
        rw [Vals.eval_tmp] at r0
        refine Vals.wpOp_run ho' rfl ?_
        clear hdep hfr ho' hdf
        go_simp
        exact hK _ _ (fun _ _ _ _ h => h) hJ (fun _ => rfl)
      | 13, ho, hd =>
        have ho' := ho
        simp only [List.getElem?_toArray, List.getElem?_cons_zero, List.getElem?_cons_succ, Option.some.injEq] at ho hd
        subst ho hd
        have r33 : a.eval (.tmp 33) = .pointer (some ⟨g, 0, none⟩) := hdep ⟨12, .data⟩ (by simp) rfl 33 rfl
        rw [Vals.eval_tmp] at r33
        refine Vals.wpOp_run ho' rfl ?_
        clear hdep hfr ho' hdf
        go_simp
        exact hK _ _ (fun _ _ _ _ h => h) hJ (fun _ => rfl)
      | 14, ho, hd =>
        have ho' := ho
        simp only [List.getElem?_toArray, List.getElem?_cons_zero, List.getElem?_cons_succ, Option.some.injEq] at ho hd
        subst ho hd
        have r34 : a.eval (.tmp 34) = .pointer (some ⟨g, 0, none⟩) := hdep ⟨13, .data⟩ (by simp) rfl 34 rfl
        rw [Vals.eval_tmp] at r34
        refine Vals.wpOp_run ho' rfl ?_
        clear hdep hfr ho' hdf
        go_simp
        exact hK _ _ (fun _ _ _ _ h => h) hJ (fun _ => rfl)
      | 15, ho, hd =>
        have ho' := ho
        simp only [List.getElem?_toArray, List.getElem?_cons_zero, List.getElem?_cons_succ, Option.some.injEq] at ho hd
        subst ho hd
        have r35 : a.eval (.tmp 35) = .pointer (some ⟨g, 1, none⟩) := hdep ⟨14, .data⟩ (by simp) rfl 35 rfl
        rw [Vals.eval_tmp] at r35
        have c0 := (HB.out.keep hJ).cell (i := 1) rfl
        refine Vals.wpOp_run ho' rfl ?_
        clear hdep hfr ho' hdf
        go_simp
        exact hK _ _ (fun _ _ _ _ h => h) hJ (fun _ => rfl)
      | 16, ho, hd =>
        have ho' := ho
        simp only [List.getElem?_toArray, List.getElem?_cons_zero, List.getElem?_cons_succ, Option.some.injEq] at ho hd
        subst ho hd
        have r0 : a.eval (.tmp 0) = .pointer (some ⟨g, 0, none⟩) := hfr 0 (by decide)
        rw [Vals.eval_tmp] at r0
        refine Vals.wpOp_run ho' rfl ?_
        clear hdep hfr ho' hdf
        go_simp
        exact hK _ _ (fun _ _ _ _ h => h) hJ (fun _ => rfl)
      | 17, ho, hd =>
        have ho' := ho
        simp only [List.getElem?_toArray, List.getElem?_cons_zero, List.getElem?_cons_succ, Option.some.injEq] at ho hd
        subst ho hd
        have r37 : a.eval (.tmp 37) = .pointer (some ⟨g, 0, none⟩) := hdep ⟨16, .data⟩ (by simp) rfl 37 rfl
        rw [Vals.eval_tmp] at r37
        refine Vals.wpOp_run ho' rfl ?_
        clear hdep hfr ho' hdf
        go_simp
        exact hK _ _ (fun _ _ _ _ h => h) hJ (fun _ => rfl)
      | 18, ho, hd =>
        have ho' := ho
        simp only [List.getElem?_toArray, List.getElem?_cons_zero, List.getElem?_cons_succ, Option.some.injEq] at ho hd
        subst ho hd
        have r38 : a.eval (.tmp 38) = .pointer (some ⟨g, 0, none⟩) := hdep ⟨17, .data⟩ (by simp) rfl 38 rfl
        rw [Vals.eval_tmp] at r38
        refine Vals.wpOp_run ho' rfl ?_
        clear hdep hfr ho' hdf
        go_simp
        exact hK _ _ (fun _ _ _ _ h => h) hJ (fun _ => rfl)
      | 19, ho, hd =>
        have ho' := ho
        simp only [List.getElem?_toArray, List.getElem?_cons_zero, List.getElem?_cons_succ, Option.some.injEq] at ho hd
        subst ho hd
        have r39 : a.eval (.tmp 39) = .pointer (some ⟨g, 2, none⟩) := hdep ⟨18, .data⟩ (by simp) rfl 39 rfl
        rw [Vals.eval_tmp] at r39
        have c0 := (HB.out.keep hJ).cell (i := 2) rfl
        refine Vals.wpOp_run ho' rfl ?_
        clear hdep hfr ho' hdf
        go_simp
        exact hK _ _ (fun _ _ _ _ h => h) hJ (fun _ => rfl)
      | 20, ho, hd =>
        have ho' := ho
        simp only [List.getElem?_toArray, List.getElem?_cons_zero, List.getElem?_cons_succ, Option.some.injEq] at ho hd
        subst ho hd
        have r32 : a.eval (.tmp 32) = .int .i64 (S / 8 + max 1 V) := hdep ⟨11, .data⟩ (by simp) rfl 32 rfl
        rw [Vals.eval_tmp] at r32
        have r36 : a.eval (.tmp 36) = .int .i64 lo := hdep ⟨15, .data⟩ (by simp) rfl 36 rfl
        rw [Vals.eval_tmp] at r36
        have r40 : a.eval (.tmp 40) = .int .i64 hi := hdep ⟨19, .data⟩ (by simp) rfl 40 rfl
        rw [Vals.eval_tmp] at r40
        refine Vals.wpOp_run ho' rfl ?_
        clear hdep hfr ho' hdf
        go_simp
        refine (HL.out W).mono ?_
        rintro e w' ⟨rfl, rfl⟩
        exact hK _ _ (fun _ _ _ _ h => h) hJ (fun _ => rfl)
      | 21, ho, hd =>
        have ho' := ho
        simp only [List.getElem?_toArray, List.getElem?_cons_zero, List.getElem?_cons_succ, Option.some.injEq] at ho hd
        subst ho hd
        have r21 : a.eval (.tmp 21) = .pointer (some ⟨g, 0, none⟩) := hdep ⟨0, .data⟩ (by simp) rfl 21 rfl
        rw [Vals.eval_tmp] at r21
        refine Vals.wpOp_run ho' rfl ?_
        clear hdep hfr ho' hdf
        go_simp
        exact hK _ _ (fun _ _ _ _ h => h) hJ (fun _ => rfl)
      | 22, ho, hd =>
        have ho' := ho
        simp only [List.getElem?_toArray, List.getElem?_cons_zero, List.getElem?_cons_succ, Option.some.injEq] at ho hd
        subst ho hd
        have r42 : a.eval (.tmp 42) = .pointer (some ⟨g, 0, none⟩) := hdep ⟨21, .data⟩ (by simp) rfl 42 rfl
        rw [Vals.eval_tmp] at r42
        refine Vals.wpOp_run ho' rfl ?_
        clear hdep hfr ho' hdf
        go_simp
        exact hK _ _ (fun _ _ _ _ h => h) hJ (fun _ => rfl)
      | i + 23, ho, hd => omega
    case fin_false =>
      intro listed W f' hall hJ hG
      have q0 : f' 21 = .pointer (some ⟨g, 0, none⟩) := hG 0 21 rfl
      have q1 : f' 22 = .pointer (some ⟨g, 0, none⟩) := hG 1 22 rfl
      have q2 : f' 23 = .pointer (some ⟨g, 0, none⟩) := hG 2 23 rfl
      have q3 : f' 24 = .pointer (some ⟨g, 4, none⟩) := hG 3 24 rfl
      have q4 : f' 25 = .int .i64 S := hG 4 25 rfl
      have q5 : f' 26 = .int .i64 (S / 8) := hG 5 26 rfl
      have q6 : f' 27 = .pointer (some ⟨g, 0, none⟩) := hG 6 27 rfl
      have q7 : f' 28 = .pointer (some ⟨g, 0, none⟩) := hG 7 28 rfl
      have q8 : f' 29 = .pointer (some ⟨g, 5, none⟩) := hG 8 29 rfl
      have q9 : f' 30 = .int .i64 V := hG 9 30 rfl
      have q10 : f' 31 = .int .i64 (max 1 V) := hG 10 31 rfl
      have q11 : f' 32 = .int .i64 (S / 8 + max 1 V) := hG 11 32 rfl
      have q12 : f' 33 = .pointer (some ⟨g, 0, none⟩) := hG 12 33 rfl
      have q13 : f' 34 = .pointer (some ⟨g, 0, none⟩) := hG 13 34 rfl
      have q14 : f' 35 = .pointer (some ⟨g, 1, none⟩) := hG 14 35 rfl
      have q15 : f' 36 = .int .i64 lo := hG 15 36 rfl
      have q16 : f' 37 = .pointer (some ⟨g, 0, none⟩) := hG 16 37 rfl
      have q17 : f' 38 = .pointer (some ⟨g, 0, none⟩) := hG 17 38 rfl
      have q18 : f' 39 = .pointer (some ⟨g, 2, none⟩) := hG 18 39 rfl
      have q19 : f' 40 = .int .i64 hi := hG 19 40 rfl
      have q20 : f' 41 = .int .i64 (nX S V lo hi) := hG 20 41 rfl
      have q21 : f' 42 = .pointer (some ⟨g, 0, none⟩) := hG 21 42 rfl
      have q22 : f' 43 = .pointer (some ⟨g, 0, none⟩) := hG 22 43 rfl
      clear hG hall
      refine Vals.wpOp_run rfl rfl ?_
      simp only [Vals.puts, Vals.pairs, List.filterMap_cons, List.filterMap_nil, id, List.map_cons, List.map_nil, List.foldl_cons, List.foldl_nil, q0, q1, q2, q3, q4, q5, q6, q7, q8, q9, q10, q11, q12, q13, q14, q15, q16, q17, q18, q19, q20, q21, q22]
      clear q0 q1 q2 q3 q4 q5 q6 q7 q8 q9 q10 q11 q12 q13 q14 q15 q16 q17 q18 q19 q20 q21 q22
      go_frame
      have hBW := HB.out.keep hJ
      have hlt := hBW.lt
      have c0 := hBW.cell (i := 0) rfl
      have f0 := hBW.free 0
      have hA := Est.set hBW (nX S V lo hi)
      have hT : Turn [g] w0 (W.setCell ⟨g, 0, none⟩ (.int .i64 (nX S V lo hi))) := (HT1.out.trans ((Turn.of_below hJ).mono (by simp))).setCell (by simp) _
      have HA := Lib.hid (And.intro hA hT)
      clear hA hT hBW
      go_simp
      go_wp2
      go_ret
      exact ⟨rfl, ⟨HA.out.1, HG.out⟩, HA.out.2⟩
  case true =>
    have hcall := HBN.out.2 rfl
    go_enter Try.func50, Try.ntmps50
    go_wp2_with fail
    refine hl0.mono ?_
    rintro e w' ⟨rfl, rfl⟩
    clear hl0
    go_wp2_with fail
    refine hcall.mono ?_
    rintro e w ⟨rfl, hB, hT1⟩
    have HB := Lib.hid hB
    have HT1 := Lib.hid hT1
    clear hcall hB hT1
    go_upto_region 9 with fail
    refine wp_region_any (by kernel_rfl) ?_
    refine Vals.wpAny_goodLastT (RSm w g x lo hi S V t) (fun _ W => Below w.heap.size w W) [some 21, some 22, some 23, some 24, some 25, some 26, some 27, some 28, some 29, some 30, some 31, some 32, some 33, some 34, some 35, some 36, some 37, some 38, some 39, some 40, some 41, some 42, some 43] 23 44 _ _ rfl (by kernel_rfl) (by kernel_rfl) (by kernel_rfl) (by decide) ?step_true ?fin_true (Below.refl _ _).drew
    case step_true =>
      intro i o d ho hd hiN listed a W hls hun hcl hJ hdf hdep hfr K hK
      match i, ho, hd with
      | 0, ho, hd =>
        have ho' := ho
        simp only [List.getElem?_toArray, List.getElem?_cons_zero, Option.some.injEq] at ho hd
        subst ho hd
        have r0 : a.eval (.tmp 0) = .pointer (some ⟨g, 0, none⟩) := hfr 0 (by decide)
        rw [Vals.eval_tmp] at r0
        refine Vals.wpOp_run ho' rfl ?_
        clear hdep hfr ho' hdf
        go_simp
        exact hK _ _ (fun _ _ _ _ h => h) hJ (fun _ => rfl)
      | 1, ho, hd =>
        have ho' := ho
        simp only [List.getElem?_toArray, List.getElem?_cons_zero, List.getElem?_cons_succ, Option.some.injEq] at ho hd
        subst ho hd
        have r0 : a.eval (.tmp 0) = .pointer (some ⟨g, 0, none⟩) := hfr 0 (by decide)
        rw [Vals.eval_tmp] at r0
        refine Vals.wpOp_run ho' rfl ?_
        clear hdep hfr ho' hdf
        go_simp
        exact hK _ _ (fun _ _ _ _ h => h) hJ (fun _ => rfl)
      | 2, ho, hd =>
        have ho' := ho
        simp only [List.getElem?_toArray, List.getElem?_cons_zero, List.getElem?_cons_succ, Option.some.injEq] at ho hd
        subst ho hd
        have r22 : a.eval (.tmp 22) = .pointer (some ⟨g, 0, none⟩) := hdep ⟨1, .data⟩ (by simp) rfl 22 rfl
        rw [Vals.eval_tmp] at r22
        refine Vals.wpOp_run ho' rfl ?_
        clear hdep hfr ho' hdf
        go_simp
        exact hK _ _ (fun _ _ _ _ h => h) hJ (fun _ => rfl)
      | 3, ho, hd =>
        have ho' := ho
        simp only [List.getElem?_toArray, List.getElem?_cons_zero, List.getElem?_cons_succ, Option.some.injEq] at ho hd
        subst ho hd
        have r23 : a.eval (.tmp 23) = .pointer (some ⟨g, 0, none⟩) := hdep ⟨2, .data⟩ (by simp) rfl 23 rfl
        rw [Vals.eval_tmp] at r23
        refine Vals.wpOp_run ho' rfl ?_
        clear hdep hfr ho' hdf
        go_simp
        exact hK _ _ (fun _ _ _ _ h => h) hJ (fun _ => rfl)
      | 4, ho, hd =>
        have ho' := ho
        simp only [List.getElem?_toArray, List.getElem?_cons_zero, List.getElem?_cons_succ, Option.some.injEq] at ho hd
        subst ho hd
        have r24 : a.eval (.tmp 24) = .pointer (some ⟨g, 4, none⟩) := hdep ⟨3, .data⟩ (by simp) rfl 24 rfl
        rw [Vals.eval_tmp] at r24
        have c0 := (HB.out.keep hJ).cell (i := 4) rfl
        refine Vals.wpOp_run ho' rfl ?_
        clear hdep hfr ho' hdf
        go_simp
        exact hK _ _ (fun _ _ _ _ h => h) hJ (fun _ => rfl)
      | 5, ho, hd =>
        have ho' := ho
        simp only [List.getElem?_toArray, List.getElem?_cons_zero, List.getElem?_cons_succ, Option.some.injEq] at ho hd
        subst ho hd
        have r25 : a.eval (.tmp 25) = .int .i64 S := hdep ⟨4, .data⟩ (by simp) rfl 25 rfl
        rw [Vals.eval_tmp] at r25
        refine Vals.wpOp_run ho' rfl ?_
        clear hdep hfr ho' hdf
        go_simp
        exact hK _ _ (fun _ _ _ _ h => h) hJ (fun _ => by first | rfl | exact congrArg (Value.int _) HD.out)
      | 6, ho, hd =>
        have ho' := ho
        simp only [List.getElem?_toArray, List.getElem?_cons_zero, List.getElem?_cons_succ, Option.some.injEq] at ho hd
        subst ho hd
        have r0 : a.eval (.tmp 0) = .pointer (some ⟨g, 0, none⟩) := hfr 0 (by decide)
        rw [Vals.eval_tmp] at r0
        refine Vals.wpOp_run ho' rfl ?_
        clear hdep hfr ho' hdf
        go_simp
        exact hK _ _ (fun _ _ _ _ h => h) hJ (fun _ => rfl)
      | 7, ho, hd =>
        have ho' := ho
        simp only [List.getElem?_toArray, List.getElem?_cons_zero, List.getElem?_cons_succ, Option.some.injEq] at ho hd
        subst ho hd
        have r27 : a.eval (.tmp 27) = .pointer (some ⟨g, 0, none⟩) := hdep ⟨6, .data⟩ (by simp) rfl 27 rfl
        rw [Vals.eval_tmp] at r27
        refine Vals.wpOp_run ho' rfl ?_
        clear hdep hfr ho' hdf
        go_simp
        exact hK _ _ (fun _ _ _ _ h => h) hJ (fun _ => rfl)
      | 8, ho, hd =>
        have ho' := ho
        simp only [List.getElem?_toArray, List.getElem?_cons_zero, List.getElem?_cons_succ, Option.some.injEq] at ho hd
        subst ho hd
        have r28 : a.eval (.tmp 28) = .pointer (some ⟨g, 0, none⟩) := hdep ⟨7, .data⟩ (by simp) rfl 28 rfl
        rw [Vals.eval_tmp] at r28
        refine Vals.wpOp_run ho' rfl ?_
        clear hdep hfr ho' hdf
        go_simp
        exact hK _ _ (fun _ _ _ _ h => h) hJ (fun _ => rfl)
      | 9, ho, hd =>
        have ho' := ho
        simp only [List.getElem?_toArray, List.getElem?_cons_zero, List.getElem?_cons_succ, Option.some.injEq] at ho hd
        subst ho hd
        have r29 : a.eval (.tmp 29) = .pointer (some ⟨g, 5, none⟩) := hdep ⟨8, .data⟩ (by simp) rfl 29 rfl
        rw [Vals.eval_tmp] at r29
        have c0 := (HB.out.keep hJ).cell (i := 5) rfl
        refine Vals.wpOp_run ho' rfl ?_
        clear hdep hfr ho' hdf
        go_simp
        exact hK _ _ (fun _ _ _ _ h => h) hJ (fun _ => rfl)
      | 10, ho, hd =>
        have ho' := ho
        simp only [List.getElem?_toArray, List.getElem?_cons_zero, List.getElem?_cons_succ, Option.some.injEq] at ho hd
        subst ho hd
        have r30 : a.eval (.tmp 30) = .int .i64 V := hdep ⟨9, .data⟩ (by simp) rfl 30 rfl
        rw [Vals.eval_tmp] at r30
        refine Vals.wpOp_run ho' rfl ?_
        clear hdep hfr ho' hdf
        go_simp
        exact hK _ _ (fun _ _ _ _ h => h) hJ (fun _ => rfl)
      | 11, ho, hd =>
        have ho' := ho
        simp only [List.getElem?_toArray, List.getElem?_cons_zero, List.getElem?_cons_succ, Option.some.injEq] at ho hd
        subst ho hd
        have r26 : a.eval (.tmp 26) = .int .i64 (S / 8) := hdep ⟨5, .data⟩ (by simp) rfl 26 rfl
        rw [Vals.eval_tmp] at r26
        have r31 : a.eval (.tmp 31) = .int .i64 (max 1 V) := hdep ⟨10, .data⟩ (by simp) rfl 31 rfl
        rw [Vals.eval_tmp] at r31
        refine Vals.wpOp_run ho' rfl ?_
        clear hdep hfr ho' hdf
        go_simp
        exact hK _ _ (fun _ _ _ _ h => h) hJ (fun _ => by first | rfl | exact congrArg (Value.int _) HW.out)
      | 12, ho, hd =>
        have ho' := ho
        simp only [List.getElem?_toArray, List.getElem?_cons_zero, List.getElem?_cons_succ, Option.some.injEq] at ho hd
        subst ho hd
        have r0 : a.eval (.tmp 0) = .pointer (some ⟨g, 0, none⟩) := hfr 0 (by decide)
        rw [Vals.eval_tmp] at r0
        refine Vals.wpOp_run ho' rfl ?_
        clear hdep hfr ho' hdf
        go_simp
        exact hK _ _ (fun _ _ _ _ h => h) hJ (fun _ => rfl)
      | 13, ho, hd =>
        have ho' := ho
        simp only [List.getElem?_toArray, List.getElem?_cons_zero, List.getElem?_cons_succ, Option.some.injEq] at ho hd
        subst ho hd
        have r33 : a.eval (.tmp 33) = .pointer (some ⟨g, 0, none⟩) := hdep ⟨12, .data⟩ (by simp) rfl 33 rfl
        rw [Vals.eval_tmp] at r33
        refine Vals.wpOp_run ho' rfl ?_
        clear hdep hfr ho' hdf
        go_simp
        exact hK _ _ (fun _ _ _ _ h => h) hJ (fun _ => rfl)
      | 14, ho, hd =>
        have ho' := ho
        simp only [List.getElem?_toArray, List.getElem?_cons_zero, List.getElem?_cons_succ, Option.some.injEq] at ho hd
        subst ho hd
        have r34 : a.eval (.tmp 34) = .pointer (some ⟨g, 0, none⟩) := hdep ⟨13, .data⟩ (by simp) rfl 34 rfl
        rw [Vals.eval_tmp] at r34
        refine Vals.wpOp_run ho' rfl ?_
        clear hdep hfr ho' hdf
        go_simp
        exact hK _ _ (fun _ _ _ _ h => h) hJ (fun _ => rfl)
      | 15, ho, hd =>
        have ho' := ho
        simp only [List.getElem?_toArray, List.getElem?_cons_zero, List.getElem?_cons_succ, Option.some.injEq] at ho hd
        subst ho hd
        have r35 : a.eval (.tmp 35) = .pointer (some ⟨g, 1, none⟩) := hdep ⟨14, .data⟩ (by simp) rfl 35 rfl
        rw [Vals.eval_tmp] at r35
        have c0 := (HB.out.keep hJ).cell (i := 1) rfl
        refine Vals.wpOp_run ho' rfl ?_
        clear hdep hfr ho' hdf
        go_simp
        exact hK _ _ (fun _ _ _ _ h => h) hJ (fun _ => rfl)
      | 16, ho, hd =>
        have ho' := ho
        simp only [List.getElem?_toArray, List.getElem?_cons_zero, List.getElem?_cons_succ, Option.some.injEq] at ho hd
        subst ho hd
        have r0 : a.eval (.tmp 0) = .pointer (some ⟨g, 0, none⟩) := hfr 0 (by decide)
        rw [Vals.eval_tmp] at r0
        refine Vals.wpOp_run ho' rfl ?_
        clear hdep hfr ho' hdf
        go_simp
        exact hK _ _ (fun _ _ _ _ h => h) hJ (fun _ => rfl)
      | 17, ho, hd =>
        have ho' := ho
        simp only [List.getElem?_toArray, List.getElem?_cons_zero, List.getElem?_cons_succ, Option.some.injEq] at ho hd
        subst ho hd
        have r37 : a.eval (.tmp 37) = .pointer (some ⟨g, 0, none⟩) := hdep ⟨16, .data⟩ (by simp) rfl 37 rfl
        rw [Vals.eval_tmp] at r37
        refine Vals.wpOp_run ho' rfl ?_
        clear hdep hfr ho' hdf
        go_simp
        exact hK _ _ (fun _ _ _ _ h => h) hJ (fun _ => rfl)
      | 18, ho, hd =>
        have ho' := ho
        simp only [List.getElem?_toArray, List.getElem?_cons_zero, List.getElem?_cons_succ, Option.some.injEq] at ho hd
        subst ho hd
        have r38 : a.eval (.tmp 38) = .pointer (some ⟨g, 0, none⟩) := hdep ⟨17, .data⟩ (by simp) rfl 38 rfl
        rw [Vals.eval_tmp] at r38
        refine Vals.wpOp_run ho' rfl ?_
        clear hdep hfr ho' hdf
        go_simp
        exact hK _ _ (fun _ _ _ _ h => h) hJ (fun _ => rfl)
      | 19, ho, hd =>
        have ho' := ho
        simp only [List.getElem?_toArray, List.getElem?_cons_zero, List.getElem?_cons_succ, Option.some.injEq] at ho hd
        subst ho hd
        have r39 : a.eval (.tmp 39) = .pointer (some ⟨g, 2, none⟩) := hdep ⟨18, .data⟩ (by simp) rfl 39 rfl
        rw [Vals.eval_tmp] at r39
        have c0 := (HB.out.keep hJ).cell (i := 2) rfl
        refine Vals.wpOp_run ho' rfl ?_
        clear hdep hfr ho' hdf
        go_simp
        exact hK _ _ (fun _ _ _ _ h => h) hJ (fun _ => rfl)
      | 20, ho, hd =>
        have ho' := ho
        simp only [List.getElem?_toArray, List.getElem?_cons_zero, List.getElem?_cons_succ, Option.some.injEq] at ho hd
        subst ho hd
        have r32 : a.eval (.tmp 32) = .int .i64 (S / 8 + max 1 V) := hdep ⟨11, .data⟩ (by simp) rfl 32 rfl
        rw [Vals.eval_tmp] at r32
        have r36 : a.eval (.tmp 36) = .int .i64 lo := hdep ⟨15, .data⟩ (by simp) rfl 36 rfl
        rw [Vals.eval_tmp] at r36
        have r40 : a.eval (.tmp 40) = .int .i64 hi := hdep ⟨19, .data⟩ (by simp) rfl 40 rfl
        rw [Vals.eval_tmp] at r40
        refine Vals.wpOp_run ho' rfl ?_
        clear hdep hfr ho' hdf
        go_simp
        refine (HL.out W).mono ?_
        rintro e w' ⟨rfl, rfl⟩
        exact hK _ _ (fun _ _ _ _ h => h) hJ (fun _ => rfl)
      | 21, ho, hd =>
        have ho' := ho
        simp only [List.getElem?_toArray, List.getElem?_cons_zero, List.getElem?_cons_succ, Option.some.injEq] at ho hd
        subst ho hd
        have r21 : a.eval (.tmp 21) = .pointer (some ⟨g, 0, none⟩) := hdep ⟨0, .data⟩ (by simp) rfl 21 rfl
        rw [Vals.eval_tmp] at r21
        refine Vals.wpOp_run ho' rfl ?_
        clear hdep hfr ho' hdf
        go_simp
        exact hK _ _ (fun _ _ _ _ h => h) hJ (fun _ => rfl)
      | 22, ho, hd =>
        have ho' := ho
        simp only [List.getElem?_toArray, List.getElem?_cons_zero, List.getElem?_cons_succ, Option.some.injEq] at ho hd
        subst ho hd
        have r42 : a.eval (.tmp 42) = .pointer (some ⟨g, 0, none⟩) := hdep ⟨21, .data⟩ (by simp) rfl 42 rfl
        rw [Vals.eval_tmp] at r42
        refine Vals.wpOp_run ho' rfl ?_
        clear hdep hfr ho' hdf
        go_simp
        exact hK _ _ (fun _ _ _ _ h => h) hJ (fun _ => rfl)
      | i + 23, ho, hd => omega
    case fin_true =>
      intro listed W f' hall hJ hG
      have q0 : f' 21 = .pointer (some ⟨g, 0, none⟩) := hG 0 21 rfl
      have q1 : f' 22 = .pointer (some ⟨g, 0, none⟩) := hG 1 22 rfl
      have q2 : f' 23 = .pointer (some ⟨g, 0, none⟩) := hG 2 23 rfl
      have q3 : f' 24 = .pointer (some ⟨g, 4, none⟩) := hG 3 24 rfl
      have q4 : f' 25 = .int .i64 S := hG 4 25 rfl
      have q5 : f' 26 = .int .i64 (S / 8) := hG 5 26 rfl
      have q6 : f' 27 = .pointer (some ⟨g, 0, none⟩) := hG 6 27 rfl
      have q7 : f' 28 = .pointer (some ⟨g, 0, none⟩) := hG 7 28 rfl
      have q8 : f' 29 = .pointer (some ⟨g, 5, none⟩) := hG 8 29 rfl
      have q9 : f' 30 = .int .i64 V := hG 9 30 rfl
      have q10 : f' 31 = .int .i64 (max 1 V) := hG 10 31 rfl
      have q11 : f' 32 = .int .i64 (S / 8 + max 1 V) := hG 11 32 rfl
      have q12 : f' 33 = .pointer (some ⟨g, 0, none⟩) := hG 12 33 rfl
      have q13 : f' 34 = .pointer (some ⟨g, 0, none⟩) := hG 13 34 rfl
      have q14 : f' 35 = .pointer (some ⟨g, 1, none⟩) := hG 14 35 rfl
      have q15 : f' 36 = .int .i64 lo := hG 15 36 rfl
      have q16 : f' 37 = .pointer (some ⟨g, 0, none⟩) := hG 16 37 rfl
      have q17 : f' 38 = .pointer (some ⟨g, 0, none⟩) := hG 17 38 rfl
      have q18 : f' 39 = .pointer (some ⟨g, 2, none⟩) := hG 18 39 rfl
      have q19 : f' 40 = .int .i64 hi := hG 19 40 rfl
      have q20 : f' 41 = .int .i64 (nX S V lo hi) := hG 20 41 rfl
      have q21 : f' 42 = .pointer (some ⟨g, 0, none⟩) := hG 21 42 rfl
      have q22 : f' 43 = .pointer (some ⟨g, 0, none⟩) := hG 22 43 rfl
      clear hG hall
      refine Vals.wpOp_run rfl rfl ?_
      simp only [Vals.puts, Vals.pairs, List.filterMap_cons, List.filterMap_nil, id, List.map_cons, List.map_nil, List.foldl_cons, List.foldl_nil, q0, q1, q2, q3, q4, q5, q6, q7, q8, q9, q10, q11, q12, q13, q14, q15, q16, q17, q18, q19, q20, q21, q22]
      clear q0 q1 q2 q3 q4 q5 q6 q7 q8 q9 q10 q11 q12 q13 q14 q15 q16 q17 q18 q19 q20 q21 q22
      go_frame
      have hBW := HB.out.keep hJ
      have hlt := hBW.lt
      have c0 := hBW.cell (i := 0) rfl
      have f0 := hBW.free 0
      have hA := Est.set hBW (nX S V lo hi)
      have hT : Turn [g] w0 (W.setCell ⟨g, 0, none⟩ (.int .i64 (nX S V lo hi))) := (HT1.out.trans ((Turn.of_below hJ).mono (by simp))).setCell (by simp) _
      have HA := Lib.hid (And.intro hA hT)
      clear hA hT hBW
      go_simp
      go_wp2
      go_ret
      exact ⟨rfl, ⟨HA.out.1, HG.out⟩, HA.out.2⟩
end Go.Proofs.Ytkgfogepbclhkaa
