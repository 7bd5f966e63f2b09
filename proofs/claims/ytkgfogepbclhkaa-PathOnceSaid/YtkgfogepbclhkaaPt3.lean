/-
  The program's path: Beat, Beaten. Written by genpt3.py.
-/
import Derived.Test.YtkgfogepbclhkaaPt2
import Derived.Test.YtkgfogepbclhkaaGoodT
import Derived.Test.YtkgfogepbclhkaaFrame
import Derived.IntWalk
namespace Go.Proofs.Ytkgfogepbclhkaa
open Go.RowKit
set_option linter.unusedVariables false
set_option linter.unusedSimpArgs false

/-- What the operations of the drawn region leave behind. -/
def RBeat (g gr gw : Nat) (now px pm pb pe pd : Int) (i : Nat) (v : Value) (W : World) : Prop := match i with | 0 => v = .pointer (some ⟨g, 0, none⟩) | 1 => v = .int .i64 now | 2 => v = .int .i64 (min now 2305843009213693952) | 3 => v = .pointer (some ⟨g, 0, none⟩) | 4 => v = .pointer (some ⟨g, 0, none⟩) | 5 => v = .pointer (some ⟨g, 0, none⟩) | 6 => v = .pointer (some ⟨g, 0, none⟩) | 7 => v = .pointer (some ⟨gr, 0, none⟩) | 8 => v = .int .i64 px | 9 => v = .int .i64 (min now 2305843009213693952 + px) | 10 => v = .pointer (some ⟨g, 0, none⟩) | 11 => v = .pointer (some ⟨g, 0, none⟩) | 12 => v = .pointer (some ⟨g, 4, none⟩) | 13 => v = .int .i64 pe | 14 => v = .int .i64 (min now 2305843009213693952 + px + pe) | 15 => v = .pointer (some ⟨g, 0, none⟩) | 16 => v = .pointer (some ⟨g, 5, none⟩) | _ => True
theorem RBeat_mono {g gr gw : Nat} {now px pm pb pe pd : Int} {W W' : World} (hb : Below W.heap.size W W') (jo : Nat) (xo : Value) (h : RBeat g gr gw now px pm pb pe pd jo xo W) : RBeat g gr gw now px pm pb pe pd jo xo W' := by
  unfold RBeat at h ⊢
  split at h <;> try exact h
theorem RBeat_any {g gr gw : Nat} {now px pm pb pe pd : Int} {W W' : World} (jo : Nat) (xo : Value) (h : RBeat g gr gw now px pm pb pe pd jo xo W) : RBeat g gr gw now px pm pb pe pd jo xo W' := by
  unfold RBeat at h ⊢
  split at h <;> exact h


theorem pbeat_no (w : World) (g gr gw : Nat) (p : PS) (c : Nat) (now : Int) (h : PP w g gr gw p c) (hn : now < p.due) :
    Calls Try.prog 22 #[.pointer (some ⟨g, 0, none⟩), .int .i64 now] w fun e w' => e = .returned (.bool (p.isDue now)) ∧ PP w' g gr gw (p.beat now) c ∧ Turn [g, gr, gw] w w' := by
  have hd : p.isDue now = false := by unfold PS.isDue; simp; omega
  have hq : p.beat now = p := by unfold PS.beat; rw [hd]; rfl
  have d1 : decide (now < p.due) = true := by simpa using hn
  rw [hd, hq]
  have c5 := h.blk.cell (i := 5) rfl
  have H := Lib.hid h
  clear h hd hq hn
  go_enter Try.func22, Try.ntmps22
  go_wp2
  go_ret
  exact ⟨rfl, H.out, Turn.refl _ _⟩


set_option maxRecDepth 10000 in
set_option maxHeartbeats 3200000 in
theorem pbeat_yes (w : World) (g gr gw : Nat) (p : PS) (c : Nat) (now : Int) (h : PP w g gr gw p c) (hn : p.due ≤ now) :
    Calls Try.prog 22 #[.pointer (some ⟨g, 0, none⟩), .int .i64 now] w fun e w' => e = .returned (.bool (p.isDue now)) ∧ PP w' g gr gw (p.beat now) c ∧ Turn [g, gr, gw] w w' := by
  have hd : p.isDue now = true := by unfold PS.isDue; simp; omega
  have hq0 : p.beat now = p.late.sent now := by unfold PS.beat; rw [hd]; rfl
  have d1 : decide (now < p.due) = false := by simp; omega
  rw [hd, hq0]
  have HN := Lib.hid (show 0 ≤ now by have := h.good.due0; omega)
  have c5 := h.blk.cell (i := 5) rfl
  have cc := h.blk.cell (i := 6) rfl
  clear hd hq0 hn
  cases ho : p.opn
  case true =>
    have hl : p.late = p.fail := by unfold PS.late; rw [ho]; rfl
    rw [hl]
    rw [ho] at cc
    obtain ⟨q, hqe⟩ : ∃ q, q = p.fail := ⟨_, rfl⟩
    have hf := pfail_any w g gr gw p c h
    rw [← hqe] at hf ⊢
    clear h hl hqe ho
    go_enter Try.func22, Try.ntmps22
    go_wp2_with fail
    refine hf.mono ?_
    rintro e we ⟨rfl, hq, hT⟩
    have HT := Lib.hid (hT.mono (cs := [g, gr, gw]) (by simp))
    clear hf hT c5 cc
    -- the estimator and the window as they are now; the rest of the call
    have hlt := hq.blk.lt
    have c6 := hq.blk.cell (i := 6) rfl
    have f6 := hq.blk.free 6
    have hgo := hq.good.sent (now := now) HN.out
    obtain ⟨a1, a2, a3, a4, _⟩ := hq.good.est
    have b1 := hq.good.every0
    have b2 := hq.good.every1
    have hn0 := HN.out
    have hTe : Turn [g] we (we.setCell ⟨g, 6, none⟩ (.bool true)) := (Turn.refl _ _).setCell (by simp) _
    have hr := (hq.rto.turn hTe (by have := hq.n1; simp; omega))
    have hB0 : Arr (we.setCell ⟨g, 6, none⟩ (.bool true)) g 59 (paC gr gw { q with opn := true }) := hq.blk.set 6 _
    obtain ⟨px, hpx⟩ : ∃ px, px = q.x := ⟨_, rfl⟩
    obtain ⟨pm, hpm⟩ : ∃ pm, pm = q.may := ⟨_, rfl⟩
    obtain ⟨pb, hpb⟩ : ∃ pb, pb = q.bad := ⟨_, rfl⟩
    obtain ⟨pe, hpe⟩ : ∃ pe, pe = q.every := ⟨_, rfl⟩
    obtain ⟨pd, hpd⟩ : ∃ pd, pd = q.due := ⟨_, rfl⟩
    have HW1 := Lib.hid (show IntKind.i64.wrap (min now 2305843009213693952 + px) = min now 2305843009213693952 + px from IntWalk.i64_in _ (by omega))
    have HW2 := Lib.hid (show IntKind.i64.wrap (min now 2305843009213693952 + px + pe) = min now 2305843009213693952 + px + pe from IntWalk.i64_in _ (by omega))
    have HV : Hid (∀ W, Below (we.setCell ⟨g, 6, none⟩ (.bool true)).heap.size (we.setCell ⟨g, 6, none⟩ (.bool true)) W → Calls Try.prog 47 #[.pointer (some ⟨gr, 0, none⟩)] W fun e w' => e = .returned (.int .i64 px) ∧ W = w') := by
      rw [hpx]
      exact Lib.hid fun W hJ => value_any W gr _ _ _ _ _ _ (hr.keep hJ)
    have HB : Hid (Arr (we.setCell ⟨g, 6, none⟩ (.bool true)) g 59 [.pointer (some ⟨gr, 0, none⟩), .pointer (some ⟨gw, 0, none⟩), .int .i64 pm, .int .i64 pb, .int .i64 pe, .int .i64 pd, .bool true]) := by
      rw [hpm, hpb, hpe, hpd]
      exact Lib.hid hB0
    have HQ := Lib.hid (And.intro hq (And.intro hgo hTe))
    have HE := Lib.hid (And.intro hpx (And.intro hpm (And.intro hpb (And.intro hpe hpd))))
    clear hq hgo hTe hr hB0 hpx hpm hpb hpe hpd a1 a2 a3 a4 b1 b2 hn0
    go_upto_region 6 with fail
    refine wp_region_any (by kernel_rfl) ?_
    refine Vals.wpAny_goodLastT (RBeat g gr gw now px pm pb pe pd) (fun _ W => Below (we.setCell ⟨g, 6, none⟩ (.bool true)).heap.size (we.setCell ⟨g, 6, none⟩ (.bool true)) W) [some 24, some 25, some 26, some 27, some 28, some 29, some 30, some 31, some 32, some 33, some 34, some 35, some 36, some 37, some 38, some 39, some 40] 17 41 _ _ rfl (by kernel_rfl) (by kernel_rfl) (by kernel_rfl) (by decide) ?stepT ?finT (Below.refl _ _).drew
    case stepT =>
      intro i o d ho hd hiN listed a W hls hun hcl hJ hdf hdep hfr K hK
      match i, ho, hd with
      | 0, ho, hd =>
        have ho' := ho
        simp only [List.getElem?_toArray, List.getElem?_cons_zero, Option.some.injEq] at ho hd
        subst ho hd
        have r0 : a.eval (.tmp 0) = .pointer (some ⟨g, 0, none⟩) := hfr 0 (by decide)
        rw [Vals.eval_tmp] at r0
        refine Vals.wpOp_run ho' rfl ?_
        clear hdep hfr ho' hdf
        go_simp
        exact hK _ _ (fun _ _ _ _ h => h) hJ (fun _ => rfl)
      | 1, ho, hd =>
        have ho' := ho
        simp only [List.getElem?_toArray, List.getElem?_cons_zero, List.getElem?_cons_succ, Option.some.injEq] at ho hd
        subst ho hd
        have r1 : a.eval (.tmp 1) = .int .i64 now := hfr 1 (by decide)
        rw [Vals.eval_tmp] at r1
        refine Vals.wpOp_run ho' rfl ?_
        clear hdep hfr ho' hdf
        go_simp
        exact hK _ _ (fun _ _ _ _ h => h) hJ (fun _ => rfl)
      | 2, ho, hd =>
        have ho' := ho
        simp only [List.getElem?_toArray, List.getElem?_cons_zero, List.getElem?_cons_succ, Option.some.injEq] at ho hd
        subst ho hd
        have r25 : a.eval (.tmp 25) = .int .i64 now := hdep ⟨1, .data⟩ (by simp) rfl 25 rfl
        rw [Vals.eval_tmp] at r25
        refine Vals.wpOp_run ho' rfl ?_
        clear hdep hfr ho' hdf
        go_simp
        exact hK _ _ (fun _ _ _ _ h => h) hJ (fun _ => rfl)
      | 3, ho, hd =>
        have ho' := ho
        simp only [List.getElem?_toArray, List.getElem?_cons_zero, List.getElem?_cons_succ, Option.some.injEq] at ho hd
        subst ho hd
        have r0 : a.eval (.tmp 0) = .pointer (some ⟨g, 0, none⟩) := hfr 0 (by decide)
        rw [Vals.eval_tmp] at r0
        refine Vals.wpOp_run ho' rfl ?_
        clear hdep hfr ho' hdf
        go_simp
        exact hK _ _ (fun _ _ _ _ h => h) hJ (fun _ => rfl)
      | 4, ho, hd =>
        have ho' := ho
        simp only [List.getElem?_toArray, List.getElem?_cons_zero, List.getElem?_cons_succ, Option.some.injEq] at ho hd
        subst ho hd
        have r27 : a.eval (.tmp 27) = .pointer (some ⟨g, 0, none⟩) := hdep ⟨3, .data⟩ (by simp) rfl 27 rfl
        rw [Vals.eval_tmp] at r27
        refine Vals.wpOp_run ho' rfl ?_
        clear hdep hfr ho' hdf
        go_simp
        exact hK _ _ (fun _ _ _ _ h => h) hJ (fun _ => rfl)
      | 5, ho, hd =>
        have ho' := ho
        simp only [List.getElem?_toArray, List.getElem?_cons_zero, List.getElem?_cons_succ, Option.some.injEq] at ho hd
        subst ho hd
        have r28 : a.eval (.tmp 28) = .pointer (some ⟨g, 0, none⟩) := hdep ⟨4, .data⟩ (by simp) rfl 28 rfl
        rw [Vals.eval_tmp] at r28
        refine Vals.wpOp_run ho' rfl ?_
        clear hdep hfr ho' hdf
        go_simp
        exact hK _ _ (fun _ _ _ _ h => h) hJ (fun _ => rfl)
      | 6, ho, hd =>
        have ho' := ho
        simp only [List.getElem?_toArray, List.getElem?_cons_zero, List.getElem?_cons_succ, Option.some.injEq] at ho hd
        subst ho hd
        have r29 : a.eval (.tmp 29) = .pointer (some ⟨g, 0, none⟩) := hdep ⟨5, .data⟩ (by simp) rfl 29 rfl
        rw [Vals.eval_tmp] at r29
        refine Vals.wpOp_run ho' rfl ?_
        clear hdep hfr ho' hdf
        go_simp
        exact hK _ _ (fun _ _ _ _ h => h) hJ (fun _ => rfl)
      | 7, ho, hd =>
        have ho' := ho
        simp only [List.getElem?_toArray, List.getElem?_cons_zero, List.getElem?_cons_succ, Option.some.injEq] at ho hd
        subst ho hd
        have r30 : a.eval (.tmp 30) = .pointer (some ⟨g, 0, none⟩) := hdep ⟨6, .data⟩ (by simp) rfl 30 rfl
        rw [Vals.eval_tmp] at r30
        have c0 := (HB.out.keep hJ).cell (i := 0) rfl
        refine Vals.wpOp_run ho' rfl ?_
        clear hdep hfr ho' hdf
        go_simp
        exact hK _ _ (fun _ _ _ _ h => h) hJ (fun _ => rfl)
      | 8, ho, hd =>
        have ho' := ho
        simp only [List.getElem?_toArray, List.getElem?_cons_zero, List.getElem?_cons_succ, Option.some.injEq] at ho hd
        subst ho hd
        have r31 : a.eval (.tmp 31) = .pointer (some ⟨gr, 0, none⟩) := hdep ⟨7, .data⟩ (by simp) rfl 31 rfl
        rw [Vals.eval_tmp] at r31
        refine Vals.wpOp_run ho' rfl ?_
        clear hdep hfr ho' hdf
        go_simp
        refine (HV.out W hJ).mono ?_
        rintro e w' ⟨rfl, rfl⟩
        exact hK _ _ (fun _ _ _ _ h => h) hJ (fun _ => rfl)
      | 9, ho, hd =>
        have ho' := ho
        simp only [List.getElem?_toArray, List.getElem?_cons_zero, List.getElem?_cons_succ, Option.some.injEq] at ho hd
        subst ho hd
        have r26 : a.eval (.tmp 26) = .int .i64 (min now 2305843009213693952) := hdep ⟨2, .data⟩ (by simp) rfl 26 rfl
        rw [Vals.eval_tmp] at r26
        have r32 : a.eval (.tmp 32) = .int .i64 px := hdep ⟨8, .data⟩ (by simp) rfl 32 rfl
        rw [Vals.eval_tmp] at r32
        refine Vals.wpOp_run ho' rfl ?_
        clear hdep hfr ho' hdf
        go_simp
        exact hK _ _ (fun _ _ _ _ h => h) hJ (fun _ => by first | rfl | exact congrArg (Value.int _) HW1.out)
      | 10, ho, hd =>
        have ho' := ho
        simp only [List.getElem?_toArray, List.getElem?_cons_zero, List.getElem?_cons_succ, Option.some.injEq] at ho hd
        subst ho hd
        have r0 : a.eval (.tmp 0) = .pointer (some ⟨g, 0, none⟩) := hfr 0 (by decide)
        rw [Vals.eval_tmp] at r0
        refine Vals.wpOp_run ho' rfl ?_
        clear hdep hfr ho' hdf
        go_simp
        exact hK _ _ (fun _ _ _ _ h => h) hJ (fun _ => rfl)
      | 11, ho, hd =>
        have ho' := ho
        simp only [List.getElem?_toArray, List.getElem?_cons_zero, List.getElem?_cons_succ, Option.some.injEq] at ho hd
        subst ho hd
        have r34 : a.eval (.tmp 34) = .pointer (some ⟨g, 0, none⟩) := hdep ⟨10, .data⟩ (by simp) rfl 34 rfl
        rw [Vals.eval_tmp] at r34
        refine Vals.wpOp_run ho' rfl ?_
        clear hdep hfr ho' hdf
        go_simp
        exact hK _ _ (fun _ _ _ _ h => h) hJ (fun _ => rfl)
      | 12, ho, hd =>
        have ho' := ho
        simp only [List.getElem?_toArray, List.getElem?_cons_zero, List.getElem?_cons_succ, Option.some.injEq] at ho hd
        subst ho hd
        have r35 : a.eval (.tmp 35) = .pointer (some ⟨g, 0, none⟩) := hdep ⟨11, .data⟩ (by simp) rfl 35 rfl
        rw [Vals.eval_tmp] at r35
        refine Vals.wpOp_run ho' rfl ?_
        clear hdep hfr ho' hdf
        go_simp
        exact hK _ _ (fun _ _ _ _ h => h) hJ (fun _ => rfl)
      | 13, ho, hd =>
        have ho' := ho
        simp only [List.getElem?_toArray, List.getElem?_cons_zero, List.getElem?_cons_succ, Option.some.injEq] at ho hd
        subst ho hd
        have r36 : a.eval (.tmp 36) = .pointer (some ⟨g, 4, none⟩) := hdep ⟨12, .data⟩ (by simp) rfl 36 rfl
        rw [Vals.eval_tmp] at r36
        have c0 := (HB.out.keep hJ).cell (i := 4) rfl
        refine Vals.wpOp_run ho' rfl ?_
        clear hdep hfr ho' hdf
        go_simp
        exact hK _ _ (fun _ _ _ _ h => h) hJ (fun _ => rfl)
      | 14, ho, hd =>
        have ho' := ho
        simp only [List.getElem?_toArray, List.getElem?_cons_zero, List.getElem?_cons_succ, Option.some.injEq] at ho hd
        subst ho hd
        have r33 : a.eval (.tmp 33) = .int .i64 (min now 2305843009213693952 + px) := hdep ⟨9, .data⟩ (by simp) rfl 33 rfl
        rw [Vals.eval_tmp] at r33
        have r37 : a.eval (.tmp 37) = .int .i64 pe := hdep ⟨13, .data⟩ (by simp) rfl 37 rfl
        rw [Vals.eval_tmp] at r37
        refine Vals.wpOp_run ho' rfl ?_
        clear hdep hfr ho' hdf
        go_simp
        exact hK _ _ (fun _ _ _ _ h => h) hJ (fun _ => by first | rfl | exact congrArg (Value.int _) HW2.out)
      | 15, ho, hd =>
        have ho' := ho
        simp only [List.getElem?_toArray, List.getElem?_cons_zero, List.getElem?_cons_succ, Option.some.injEq] at ho hd
        subst ho hd
        have r24 : a.eval (.tmp 24) = .pointer (some ⟨g, 0, none⟩) := hdep ⟨0, .data⟩ (by simp) rfl 24 rfl
        rw [Vals.eval_tmp] at r24
        refine Vals.wpOp_run ho' rfl ?_
        clear hdep hfr ho' hdf
        go_simp
        exact hK _ _ (fun _ _ _ _ h => h) hJ (fun _ => rfl)
      | 16, ho, hd =>
        have ho' := ho
        simp only [List.getElem?_toArray, List.getElem?_cons_zero, List.getElem?_cons_succ, Option.some.injEq] at ho hd
        subst ho hd
        have r39 : a.eval (.tmp 39) = .pointer (some ⟨g, 0, none⟩) := hdep ⟨15, .data⟩ (by simp) rfl 39 rfl
        rw [Vals.eval_tmp] at r39
        refine Vals.wpOp_run ho' rfl ?_
        clear hdep hfr ho' hdf
        go_simp
        exact hK _ _ (fun _ _ _ _ h => h) hJ (fun _ => rfl)
      | i + 17, ho, hd => omega
    case finT =>
      intro listed W f' hall hJ hG
      have q0 : f' 24 = .pointer (some ⟨g, 0, none⟩) := hG 0 24 rfl
      have q1 : f' 25 = .int .i64 now := hG 1 25 rfl
      have q2 : f' 26 = .int .i64 (min now 2305843009213693952) := hG 2 26 rfl
      have q3 : f' 27 = .pointer (some ⟨g, 0, none⟩) := hG 3 27 rfl
      have q4 : f' 28 = .pointer (some ⟨g, 0, none⟩) := hG 4 28 rfl
      have q5 : f' 29 = .pointer (some ⟨g, 0, none⟩) := hG 5 29 rfl
      have q6 : f' 30 = .pointer (some ⟨g, 0, none⟩) := hG 6 30 rfl
      have q7 : f' 31 = .pointer (some ⟨gr, 0, none⟩) := hG 7 31 rfl
      have q8 : f' 32 = .int .i64 px := hG 8 32 rfl
      have q9 : f' 33 = .int .i64 (min now 2305843009213693952 + px) := hG 9 33 rfl
      have q10 : f' 34 = .pointer (some ⟨g, 0, none⟩) := hG 10 34 rfl
      have q11 : f' 35 = .pointer (some ⟨g, 0, none⟩) := hG 11 35 rfl
      have q12 : f' 36 = .pointer (some ⟨g, 4, none⟩) := hG 12 36 rfl
      have q13 : f' 37 = .int .i64 pe := hG 13 37 rfl
      have q14 : f' 38 = .int .i64 (min now 2305843009213693952 + px + pe) := hG 14 38 rfl
      have q15 : f' 39 = .pointer (some ⟨g, 0, none⟩) := hG 15 39 rfl
      have q16 : f' 40 = .pointer (some ⟨g, 5, none⟩) := hG 16 40 rfl
      clear hG hall
      refine Vals.wpOp_run rfl rfl ?_
      simp only [Vals.puts, Vals.pairs, List.filterMap_cons, List.filterMap_nil, id, List.map_cons, List.map_nil, List.foldl_cons, List.foldl_nil, q0, q1, q2, q3, q4, q5, q6, q7, q8, q9, q10, q11, q12, q13, q14, q15, q16]
      clear q0 q1 q2 q3 q4 q5 q6 q7 q8 q9 q10 q11 q12 q13 q14 q15 q16
      go_frame
      have hBW := HB.out.keep hJ
      have hlt2 := hBW.lt
      have c5 := hBW.cell (i := 5) rfl
      have f5 := hBW.free 5
      have hA : Arr (W.setCell ⟨g, 5, none⟩ (.int .i64 (min now 2305843009213693952 + px + pe))) g 59 (paC gr gw (q.sent now)) := by
        have := hBW.set 5 (.int .i64 (min now 2305843009213693952 + px + pe))
        rw [HE.out.1, HE.out.2.2.2.1]
        rw [HE.out.1, HE.out.2.1, HE.out.2.2.1, HE.out.2.2.2.1] at this
        exact this
      have hT : Turn [g] we (W.setCell ⟨g, 5, none⟩ (.int .i64 (min now 2305843009213693952 + px + pe))) := (HQ.out.2.2.trans ((Turn.of_below hJ).mono (by simp))).setCell (by simp) _
      have HA := Lib.hid (And.intro (HQ.out.1.put (p' := q.sent now) hT hA HQ.out.2.1 rfl rfl) (HT.out.trans (hT.mono (cs := [g, gr, gw]) (by simp))))
      clear hA hT hBW
      go_simp
      go_wp2
      go_ret
      exact ⟨rfl, HA.out.1, HA.out.2⟩
  case false =>
    have hl : p.late = p := by unfold PS.late; rw [ho]; rfl
    rw [hl]
    rw [ho] at cc
    obtain ⟨we, hwe⟩ : ∃ we, we = w := ⟨_, rfl⟩
    obtain ⟨q, hqe⟩ : ∃ q, q = p := ⟨_, rfl⟩
    rw [← hwe] at h c5 cc ⊢
    rw [← hqe] at h c5 d1 ⊢
    have hq := h
    have HT : Hid (Turn [g, gr, gw] we we) := Lib.hid (Turn.refl _ _)
    clear h hl hqe ho hwe
    go_enter Try.func22, Try.ntmps22
    -- the estimator and the window as they are now; the rest of the call
    have hlt := hq.blk.lt
    have c6 := hq.blk.cell (i := 6) rfl
    have f6 := hq.blk.free 6
    have hgo := hq.good.sent (now := now) HN.out
    obtain ⟨a1, a2, a3, a4, _⟩ := hq.good.est
    have b1 := hq.good.every0
    have b2 := hq.good.every1
    have hn0 := HN.out
    have hTe : Turn [g] we (we.setCell ⟨g, 6, none⟩ (.bool true)) := (Turn.refl _ _).setCell (by simp) _
    have hr := (hq.rto.turn hTe (by have := hq.n1; simp; omega))
    have hB0 : Arr (we.setCell ⟨g, 6, none⟩ (.bool true)) g 59 (paC gr gw { q with opn := true }) := hq.blk.set 6 _
    obtain ⟨px, hpx⟩ : ∃ px, px = q.x := ⟨_, rfl⟩
    obtain ⟨pm, hpm⟩ : ∃ pm, pm = q.may := ⟨_, rfl⟩
    obtain ⟨pb, hpb⟩ : ∃ pb, pb = q.bad := ⟨_, rfl⟩
    obtain ⟨pe, hpe⟩ : ∃ pe, pe = q.every := ⟨_, rfl⟩
    obtain ⟨pd, hpd⟩ : ∃ pd, pd = q.due := ⟨_, rfl⟩
    have HW1 := Lib.hid (show IntKind.i64.wrap (min now 2305843009213693952 + px) = min now 2305843009213693952 + px from IntWalk.i64_in _ (by omega))
    have HW2 := Lib.hid (show IntKind.i64.wrap (min now 2305843009213693952 + px + pe) = min now 2305843009213693952 + px + pe from IntWalk.i64_in _ (by omega))
    have HV : Hid (∀ W, Below (we.setCell ⟨g, 6, none⟩ (.bool true)).heap.size (we.setCell ⟨g, 6, none⟩ (.bool true)) W → Calls Try.prog 47 #[.pointer (some ⟨gr, 0, none⟩)] W fun e w' => e = .returned (.int .i64 px) ∧ W = w') := by
      rw [hpx]
      exact Lib.hid fun W hJ => value_any W gr _ _ _ _ _ _ (hr.keep hJ)
    have HB : Hid (Arr (we.setCell ⟨g, 6, none⟩ (.bool true)) g 59 [.pointer (some ⟨gr, 0, none⟩), .pointer (some ⟨gw, 0, none⟩), .int .i64 pm, .int .i64 pb, .int .i64 pe, .int .i64 pd, .bool true]) := by
      rw [hpm, hpb, hpe, hpd]
      exact Lib.hid hB0
    have HQ := Lib.hid (And.intro hq (And.intro hgo hTe))
    have HE := Lib.hid (And.intro hpx (And.intro hpm (And.intro hpb (And.intro hpe hpd))))
    clear hq hgo hTe hr hB0 hpx hpm hpb hpe hpd a1 a2 a3 a4 b1 b2 hn0
    go_upto_region 6 with fail
    refine wp_region_any (by kernel_rfl) ?_
    refine Vals.wpAny_goodLastT (RBeat g gr gw now px pm pb pe pd) (fun _ W => Below (we.setCell ⟨g, 6, none⟩ (.bool true)).heap.size (we.setCell ⟨g, 6, none⟩ (.bool true)) W) [some 24, some 25, some 26, some 27, some 28, some 29, some 30, some 31, some 32, some 33, some 34, some 35, some 36, some 37, some 38, some 39, some 40] 17 41 _ _ rfl (by kernel_rfl) (by kernel_rfl) (by kernel_rfl) (by decide) ?stepF ?finF (Below.refl _ _).drew
    case stepF =>
      intro i o d ho hd hiN listed a W hls hun hcl hJ hdf hdep hfr K hK
      match i, ho, hd with
      | 0, ho, hd =>
        have ho' := ho
        simp only [List.getElem?_toArray, List.getElem?_cons_zero, Option.some.injEq] at ho hd
        subst ho hd
        have r0 : a.eval (.tmp 0) = .pointer (some ⟨g, 0, none⟩) := hfr 0 (by decide)
        rw [Vals.eval_tmp] at r0
        refine Vals.wpOp_run ho' rfl ?_
        clear hdep hfr ho' hdf
        go_simp
        exact hK _ _ (fun _ _ _ _ h => h) hJ (fun _ => rfl)
      | 1, ho, hd =>
        have ho' := ho
        simp only [List.getElem?_toArray, List.getElem?_cons_zero, List.getElem?_cons_succ, Option.some.injEq] at ho hd
        subst ho hd
        have r1 : a.eval (.tmp 1) = .int .i64 now := hfr 1 (by decide)
        rw [Vals.eval_tmp] at r1
        refine Vals.wpOp_run ho' rfl ?_
        clear hdep hfr ho' hdf
        go_simp
        exact hK _ _ (fun _ _ _ _ h => h) hJ (fun _ => rfl)
      | 2, ho, hd =>
        have ho' := ho
        simp only [List.getElem?_toArray, List.getElem?_cons_zero, List.getElem?_cons_succ, Option.some.injEq] at ho hd
        subst ho hd
        have r25 : a.eval (.tmp 25) = .int .i64 now := hdep ⟨1, .data⟩ (by simp) rfl 25 rfl
        rw [Vals.eval_tmp] at r25
        refine Vals.wpOp_run ho' rfl ?_
        clear hdep hfr ho' hdf
        go_simp
        exact hK _ _ (fun _ _ _ _ h => h) hJ (fun _ => rfl)
      | 3, ho, hd =>
        have ho' := ho
        simp only [List.getElem?_toArray, List.getElem?_cons_zero, List.getElem?_cons_succ, Option.some.injEq] at ho hd
        subst ho hd
        have r0 : a.eval (.tmp 0) = .pointer (some ⟨g, 0, none⟩) := hfr 0 (by decide)
        rw [Vals.eval_tmp] at r0
        refine Vals.wpOp_run ho' rfl ?_
        clear hdep hfr ho' hdf
        go_simp
        exact hK _ _ (fun _ _ _ _ h => h) hJ (fun _ => rfl)
      | 4, ho, hd =>
        have ho' := ho
        simp only [List.getElem?_toArray, List.getElem?_cons_zero, List.getElem?_cons_succ, Option.some.injEq] at ho hd
        subst ho hd
        have r27 : a.eval (.tmp 27) = .pointer (some ⟨g, 0, none⟩) := hdep ⟨3, .data⟩ (by simp) rfl 27 rfl
        rw [Vals.eval_tmp] at r27
        refine Vals.wpOp_run ho' rfl ?_
        clear hdep hfr ho' hdf
        go_simp
        exact hK _ _ (fun _ _ _ _ h => h) hJ (fun _ => rfl)
      | 5, ho, hd =>
        have ho' := ho
        simp only [List.getElem?_toArray, List.getElem?_cons_zero, List.getElem?_cons_succ, Option.some.injEq] at ho hd
        subst ho hd
        have r28 : a.eval (.tmp 28) = .pointer (some ⟨g, 0, none⟩) := hdep ⟨4, .data⟩ (by simp) rfl 28 rfl
        rw [Vals.eval_tmp] at r28
        refine Vals.wpOp_run ho' rfl ?_
        clear hdep hfr ho' hdf
        go_simp
        exact hK _ _ (fun _ _ _ _ h => h) hJ (fun _ => rfl)
      | 6, ho, hd =>
        have ho' := ho
        simp only [List.getElem?_toArray, List.getElem?_cons_zero, List.getElem?_cons_succ, Option.some.injEq] at ho hd
        subst ho hd
        have r29 : a.eval (.tmp 29) = .pointer (some ⟨g, 0, none⟩) := hdep ⟨5, .data⟩ (by simp) rfl 29 rfl
        rw [Vals.eval_tmp] at r29
        refine Vals.wpOp_run ho' rfl ?_
        clear hdep hfr ho' hdf
        go_simp
        exact hK _ _ (fun _ _ _ _ h => h) hJ (fun _ => rfl)
      | 7, ho, hd =>
        have ho' := ho
        simp only [List.getElem?_toArray, List.getElem?_cons_zero, List.getElem?_cons_succ, Option.some.injEq] at ho hd
        subst ho hd
        have r30 : a.eval (.tmp 30) = .pointer (some ⟨g, 0, none⟩) := hdep ⟨6, .data⟩ (by simp) rfl 30 rfl
        rw [Vals.eval_tmp] at r30
        have c0 := (HB.out.keep hJ).cell (i := 0) rfl
        refine Vals.wpOp_run ho' rfl ?_
        clear hdep hfr ho' hdf
        go_simp
        exact hK _ _ (fun _ _ _ _ h => h) hJ (fun _ => rfl)
      | 8, ho, hd =>
        have ho' := ho
        simp only [List.getElem?_toArray, List.getElem?_cons_zero, List.getElem?_cons_succ, Option.some.injEq] at ho hd
        subst ho hd
        have r31 : a.eval (.tmp 31) = .pointer (some ⟨gr, 0, none⟩) := hdep ⟨7, .data⟩ (by simp) rfl 31 rfl
        rw [Vals.eval_tmp] at r31
        refine Vals.wpOp_run ho' rfl ?_
        clear hdep hfr ho' hdf
        go_simp
        refine (HV.out W hJ).mono ?_
        rintro e w' ⟨rfl, rfl⟩
        exact hK _ _ (fun _ _ _ _ h => h) hJ (fun _ => rfl)
      | 9, ho, hd =>
        have ho' := ho
        simp only [List.getElem?_toArray, List.getElem?_cons_zero, List.getElem?_cons_succ, Option.some.injEq] at ho hd
        subst ho hd
        have r26 : a.eval (.tmp 26) = .int .i64 (min now 2305843009213693952) := hdep ⟨2, .data⟩ (by simp) rfl 26 rfl
        rw [Vals.eval_tmp] at r26
        have r32 : a.eval (.tmp 32) = .int .i64 px := hdep ⟨8, .data⟩ (by simp) rfl 32 rfl
        rw [Vals.eval_tmp] at r32
        refine Vals.wpOp_run ho' rfl ?_
        clear hdep hfr ho' hdf
        go_simp
        exact hK _ _ (fun _ _ _ _ h => h) hJ (fun _ => by first | rfl | exact congrArg (Value.int _) HW1.out)
      | 10, ho, hd =>
        have ho' := ho
        simp only [List.getElem?_toArray, List.getElem?_cons_zero, List.getElem?_cons_succ, Option.some.injEq] at ho hd
        subst ho hd
        have r0 : a.eval (.tmp 0) = .pointer (some ⟨g, 0, none⟩) := hfr 0 (by decide)
        rw [Vals.eval_tmp] at r0
        refine Vals.wpOp_run ho' rfl ?_
        clear hdep hfr ho' hdf
        go_simp
        exact hK _ _ (fun _ _ _ _ h => h) hJ (fun _ => rfl)
      | 11, ho, hd =>
        have ho' := ho
        simp only [List.getElem?_toArray, List.getElem?_cons_zero, List.getElem?_cons_succ, Option.some.injEq] at ho hd
        subst ho hd
        have r34 : a.eval (.tmp 34) = .pointer (some ⟨g, 0, none⟩) := hdep ⟨10, .data⟩ (by simp) rfl 34 rfl
        rw [Vals.eval_tmp] at r34
        refine Vals.wpOp_run ho' rfl ?_
        clear hdep hfr ho' hdf
        go_simp
        exact hK _ _ (fun _ _ _ _ h => h) hJ (fun _ => rfl)
      | 12, ho, hd =>
        have ho' := ho
        simp only [List.getElem?_toArray, List.getElem?_cons_zero, List.getElem?_cons_succ, Option.some.injEq] at ho hd
        subst ho hd
        have r35 : a.eval (.tmp 35) = .pointer (some ⟨g, 0, none⟩) := hdep ⟨11, .data⟩ (by simp) rfl 35 rfl
        rw [Vals.eval_tmp] at r35
        refine Vals.wpOp_run ho' rfl ?_
        clear hdep hfr ho' hdf
        go_simp
        exact hK _ _ (fun _ _ _ _ h => h) hJ (fun _ => rfl)
      | 13, ho, hd =>
        have ho' := ho
        simp only [List.getElem?_toArray, List.getElem?_cons_zero, List.getElem?_cons_succ, Option.some.injEq] at ho hd
        subst ho hd
        have r36 : a.eval (.tmp 36) = .pointer (some ⟨g, 4, none⟩) := hdep ⟨12, .data⟩ (by simp) rfl 36 rfl
        rw [Vals.eval_tmp] at r36
        have c0 := (HB.out.keep hJ).cell (i := 4) rfl
        refine Vals.wpOp_run ho' rfl ?_
        clear hdep hfr ho' hdf
        go_simp
        exact hK _ _ (fun _ _ _ _ h => h) hJ (fun _ => rfl)
      | 14, ho, hd =>
        have ho' := ho
        simp only [List.getElem?_toArray, List.getElem?_cons_zero, List.getElem?_cons_succ, Option.some.injEq] at ho hd
        subst ho hd
        have r33 : a.eval (.tmp 33) = .int .i64 (min now 2305843009213693952 + px) := hdep ⟨9, .data⟩ (by simp) rfl 33 rfl
        rw [Vals.eval_tmp] at r33
        have r37 : a.eval (.tmp 37) = .int .i64 pe := hdep ⟨13, .data⟩ (by simp) rfl 37 rfl
        rw [Vals.eval_tmp] at r37
        refine Vals.wpOp_run ho' rfl ?_
        clear hdep hfr ho' hdf
        go_simp
        exact hK _ _ (fun _ _ _ _ h => h) hJ (fun _ => by first | rfl | exact congrArg (Value.int _) HW2.out)
      | 15, ho, hd =>
        have ho' := ho
        simp only [List.getElem?_toArray, List.getElem?_cons_zero, List.getElem?_cons_succ, Option.some.injEq] at ho hd
        subst ho hd
        have r24 : a.eval (.tmp 24) = .pointer (some ⟨g, 0, none⟩) := hdep ⟨0, .data⟩ (by simp) rfl 24 rfl
        rw [Vals.eval_tmp] at r24
        refine Vals.wpOp_run ho' rfl ?_
        clear hdep hfr ho' hdf
        go_simp
        exact hK _ _ (fun _ _ _ _ h => h) hJ (fun _ => rfl)
      | 16, ho, hd =>
        have ho' := ho
        simp only [List.getElem?_toArray, List.getElem?_cons_zero, List.getElem?_cons_succ, Option.some.injEq] at ho hd
        subst ho hd
        have r39 : a.eval (.tmp 39) = .pointer (some ⟨g, 0, none⟩) := hdep ⟨15, .data⟩ (by simp) rfl 39 rfl
        rw [Vals.eval_tmp] at r39
        refine Vals.wpOp_run ho' rfl ?_
        clear hdep hfr ho' hdf
        go_simp
        exact hK _ _ (fun _ _ _ _ h => h) hJ (fun _ => rfl)
      | i + 17, ho, hd => omega
    case finF =>
      intro listed W f' hall hJ hG
      have q0 : f' 24 = .pointer (some ⟨g, 0, none⟩) := hG 0 24 rfl
      have q1 : f' 25 = .int .i64 now := hG 1 25 rfl
      have q2 : f' 26 = .int .i64 (min now 2305843009213693952) := hG 2 26 rfl
      have q3 : f' 27 = .pointer (some ⟨g, 0, none⟩) := hG 3 27 rfl
      have q4 : f' 28 = .pointer (some ⟨g, 0, none⟩) := hG 4 28 rfl
      have q5 : f' 29 = .pointer (some ⟨g, 0, none⟩) := hG 5 29 rfl
      have q6 : f' 30 = .pointer (some ⟨g, 0, none⟩) := hG 6 30 rfl
      have q7 : f' 31 = .pointer (some ⟨gr, 0, none⟩) := hG 7 31 rfl
      have q8 : f' 32 = .int .i64 px := hG 8 32 rfl
      have q9 : f' 33 = .int .i64 (min now 2305843009213693952 + px) := hG 9 33 rfl
      have q10 : f' 34 = .pointer (some ⟨g, 0, none⟩) := hG 10 34 rfl
      have q11 : f' 35 = .pointer (some ⟨g, 0, none⟩) := hG 11 35 rfl
      have q12 : f' 36 = .pointer (some ⟨g, 4, none⟩) := hG 12 36 rfl
      have q13 : f' 37 = .int .i64 pe := hG 13 37 rfl
      have q14 : f' 38 = .int .i64 (min now 2305843009213693952 + px + pe) := hG 14 38 rfl
      have q15 : f' 39 = .pointer (some ⟨g, 0, none⟩) := hG 15 39 rfl
      have q16 : f' 40 = .pointer (some ⟨g, 5, none⟩) := hG 16 40 rfl
      clear hG hall
      refine Vals.wpOp_run rfl rfl ?_
      simp only [Vals.puts, Vals.pairs, List.filterMap_cons, List.filterMap_nil, id, List.map_cons, List.map_nil, List.foldl_cons, List.foldl_nil, q0, q1, q2, q3, q4, q5, q6, q7, q8, q9, q10, q11, q12, q13, q14, q15, q16]
      clear q0 q1 q2 q3 q4 q5 q6 q7 q8 q9 q10 q11 q12 q13 q14 q15 q16
      go_frame
      have hBW := HB.out.keep hJ
      have hlt2 := hBW.lt
      have c5 := hBW.cell (i := 5) rfl
      have f5 := hBW.free 5
      have hA : Arr (W.setCell ⟨g, 5, none⟩ (.int .i64 (min now 2305843009213693952 + px + pe))) g 59 (paC gr gw (q.sent now)) := by
        have := hBW.set 5 (.int .i64 (min now 2305843009213693952 + px + pe))
        rw [HE.out.1, HE.out.2.2.2.1]
        rw [HE.out.1, HE.out.2.1, HE.out.2.2.1, HE.out.2.2.2.1] at this
        exact this
      have hT : Turn [g] we (W.setCell ⟨g, 5, none⟩ (.int .i64 (min now 2305843009213693952 + px + pe))) := (HQ.out.2.2.trans ((Turn.of_below hJ).mono (by simp))).setCell (by simp) _
      have HA := Lib.hid (And.intro (HQ.out.1.put (p' := q.sent now) hT hA HQ.out.2.1 rfl rfl) (HT.out.trans (hT.mono (cs := [g, gr, gw]) (by simp))))
      clear hA hT hBW
      go_simp
      go_wp2
      go_ret
      exact ⟨rfl, HA.out.1, HA.out.2⟩

theorem pbeat_any (w : World) (g gr gw : Nat) (p : PS) (c : Nat) (now : Int) (h : PP w g gr gw p c) :
    Calls Try.prog 22 #[.pointer (some ⟨g, 0, none⟩), .int .i64 now] w fun e w' => e = .returned (.bool (p.isDue now)) ∧ PP w' g gr gw (p.beat now) c ∧ Turn [g, gr, gw] w w' := by
  by_cases hn : now < p.due
  · exact pbeat_no w g gr gw p c now h hn
  · exact pbeat_yes w g gr gw p c now h (by omega)


theorem pbeaten_any (w : World) (g gr gw : Nat) (p : PS) (c : Nat) (s n : Int) (w1 : (Lit.int .i64 s).wf = true) (w2 : (Lit.int .i64 n).wf = true) (h : PP w g gr gw p c) :
    Calls Try.prog 24 #[.pointer (some ⟨g, 0, none⟩), .int .i64 s, .int .i64 n] w fun e w' => e = .returned (.bool (p.canBe s n)) ∧ PP w' g gr gw (p.beaten s n) c ∧ Turn [g, gr, gw] w w' := by
  have v1 := wf_i64_in w1
  have v2 := wf_i64_in w2
  clear w1 w2
  have c6 := h.blk.cell (i := 6) rfl
  cases ho : p.opn
  case false =>
    rw [ho] at c6
    have hd : p.canBe s n = false := by unfold PS.canBe; rw [ho]; rfl
    have hq : p.beaten s n = p := by unfold PS.beaten; rw [hd]; rfl
    rw [hd, hq]
    have H := Lib.hid h
    clear h hd hq
    go_enter Try.func24, Try.ntmps24
    go_wp2
    go_ret
    exact ⟨rfl, H.out, Turn.refl _ _⟩
  case true =>
    rw [ho] at c6
    by_cases h1 : s < 0
    · have d1 : decide (s < 0) = true := by simpa using h1
      have hd : p.canBe s n = false := by unfold PS.canBe; rw [ho]; simp; omega
      have hq : p.beaten s n = p := by unfold PS.beaten; rw [hd]; rfl
      rw [hd, hq]
      have H := Lib.hid h
      clear h hd hq
      go_enter Try.func24, Try.ntmps24
      go_wp2
      go_ret
      exact ⟨rfl, H.out, Turn.refl _ _⟩
    · have d1 : decide (s < 0) = false := by simpa using h1
      by_cases h2 : n < s
      · have d2 : decide (n < s) = true := by simpa using h2
        have hd : p.canBe s n = false := by unfold PS.canBe; rw [ho]; simp; omega
        have hq : p.beaten s n = p := by unfold PS.beaten; rw [hd]; rfl
        rw [hd, hq]
        have H := Lib.hid h
        clear h hd hq
        go_enter Try.func24, Try.ntmps24
        go_wp2
        go_ret
        exact ⟨rfl, H.out, Turn.refl _ _⟩
      · have d2 : decide (n < s) = false := by simpa using h2
        have hd : p.canBe s n = true := by unfold PS.canBe; rw [ho]; simp; omega
        have hq : p.beaten s n = p.answered.sample (n - s) := by unfold PS.beaten; rw [hd]; rfl
        rw [hd, hq]
        have ha := panswered_any w g gr gw p c h
        clear h hd hq
        go_enter Try.func24, Try.ntmps24
        go_wp2_with fail
        refine ha.mono ?_
        rintro e w1 ⟨rfl, h1, hT1⟩
        have HT := Lib.hid (hT1.mono (cs := [g, gr, gw]) (by simp))
        clear ha hT1 c6
        go_wp2_with fail
        refine (psample_any w1 g gr gw _ c h1 (n - s)).mono ?_
        rintro e w2 ⟨rfl, h2, hT2⟩
        have H2 := Lib.hid (And.intro h2 (HT.out.trans (hT2.mono (cs := [g, gr, gw]) (by simp))))
        clear h1 h2 hT2
        go_wp2
        go_ret
        exact ⟨rfl, H2.out.1, H2.out.2⟩
end Go.Proofs.Ytkgfogepbclhkaa
