/-
  The walk of PathOnce. Written by genptonce.py.
-/
import Derived.Test.YtkgfogepbclhkaaPtLaw
import Derived.Test.YtkgfogepbclhkaaPtJ
import Derived.IntWalk
namespace Go.Proofs.Ytkgfogepbclhkaa
open Go.RowKit
set_option linter.unusedVariables false
set_option linter.unusedSimpArgs false

/-- What the operations of the drawn region leave behind. -/
def ROnce (g gc kx : Nat) (k : Int) (e1 e2 : Bool) (i : Nat) (v : Value) (W : World) : Prop := match i with | 0 => v = .pointer (some ⟨g, 0, none⟩) | 1 => v = .bool e1 | 2 => v = .int .i64 (kx : Int) | 3 => v = .pointer (some ⟨gc, 12, none⟩) | 4 => v = .int .i64 k | 5 => v = .int .i64 (k + 1) | 6 => v = .bool e1 | 7 => v = .bool false | 8 => v = .bool false | 9 => v = .pointer (some ⟨g, 0, none⟩) | 10 => v = .bool e2 | 11 => v = .int .i64 (kx : Int) | 12 => v = .pointer (some ⟨gc, 12, none⟩) | 13 => v = .int .i64 k | 14 => v = .bool e2 | 15 => v = .bool false | 16 => v = .bool false | 17 => v = .bool false | 18 => v = .pointer (some ⟨g, 0, none⟩) | 19 => v = .int .i64 (min (kx : Int) (k + 1)) | 20 => v = .int .i64 (kx : Int) | 21 => v = .pointer (some ⟨gc, 12, none⟩) | 22 => v = .int .i64 k | 23 => v = .int .i64 (k + 1) | 24 => v = .int .i64 (min (kx : Int) (k + 1)) | 25 => v = .bool false | 26 => v = .bool false | 27 => v = .bool false | 28 => v = .pointer (some ⟨g, 0, none⟩) | 29 => v = .int .i64 128 | 30 => v = .bool false | 31 => v = .bool false | _ => True
theorem ROnce_mono {g gc kx : Nat} {k : Int} {e1 e2 : Bool} {W W' : World} (hb : Below W.heap.size W W') (jo : Nat) (xo : Value) (h : ROnce g gc kx k e1 e2 jo xo W) : ROnce g gc kx k e1 e2 jo xo W' := by
  unfold ROnce at h ⊢
  split at h <;> try exact h
theorem ROnce_any {g gc kx : Nat} {k : Int} {e1 e2 : Bool} {W W' : World} (jo : Nat) (xo : Value) (h : ROnce g gc kx k e1 e2 jo xo W) : ROnce g gc kx k e1 e2 jo xo W' := by
  unfold ROnce at h ⊢
  split at h <;> exact h

set_option maxRecDepth 10000 in
set_option maxHeartbeats 6400000 in
theorem pathOnce_walk (r z : Int) (w : World) (w1 : (Lit.int .u8 r).wf = true) (w2 : (Lit.int .u8 z).wf = true) :
    Calls Try.prog 5 #[.int .u8 r, .int .u8 z] w fun e w' => e = .returned (.bool true) ∧ Below w.heap.size w w' := by
  have hp := plain_any w r (wf_u8_in w1).1 (wf_u8_in w1).2
  have hk : 0 ≤ r % 21 ∧ r % 21 ≤ 20 := by omega
  obtain ⟨k, hkk⟩ : ∃ k, k = r % 21 := ⟨_, rfl⟩
  rw [← hkk] at hp hk
  have hn := fun W => pl_new W k hk.1 hk.2 0
  have hm : z.tmod 61 = z % 61 := Int.tmod_eq_emod_of_nonneg (wf_u8_in w2).1
  have hmm : 0 ≤ z % 61 ∧ z % 61 ≤ 60 := by omega
  obtain ⟨mm, hmn⟩ : ∃ mm : Nat, (mm : Int) = z % 61 := ⟨(z % 61).toNat, by omega⟩
  rw [← hmn] at hm hmm
  have hmz : 0 ≤ z ∧ z ≤ 255 := wf_u8_in w2
  clear hkk hmn w1 w2
  go_enter Try.func5, Try.ntmps5
  go_wp2_with fail
  refine hp.mono ?_
  rintro e wa ⟨rfl, hta⟩
  have hbx := cfBox wa 0 128 0 0 0 1000 3 1 60 0 0 10 k 0
  have hT1 : Turn [] wa (wa.alloc (.cells #[.int .i64 0, .int .i64 128, .int .i64 0, .int .i64 0, .int .i64 0, .int .i64 1000, .int .i64 3, .int .i64 1, .int .i64 60, .int .i64 0, .int .i64 0, .int .i64 10, .int .i64 k, .int .i64 0] 23)) := (Turn.refl _ _).alloc _
  have x0 := hbx.cell (i := 0) rfl
  have x1 := hbx.cell (i := 1) rfl
  have x2 := hbx.cell (i := 2) rfl
  have x3 := hbx.cell (i := 3) rfl
  have x4 := hbx.cell (i := 4) rfl
  have x5 := hbx.cell (i := 5) rfl
  have x6 := hbx.cell (i := 6) rfl
  have x7 := hbx.cell (i := 7) rfl
  have x8 := hbx.cell (i := 8) rfl
  have x9 := hbx.cell (i := 9) rfl
  have x10 := hbx.cell (i := 10) rfl
  have x11 := hbx.cell (i := 11) rfl
  have x12 := hbx.cell (i := 12) rfl
  have x13 := hbx.cell (i := 13) rfl
  replace hn := hn (wa.alloc (.cells #[.int .i64 0, .int .i64 128, .int .i64 0, .int .i64 0, .int .i64 0, .int .i64 1000, .int .i64 3, .int .i64 1, .int .i64 60, .int .i64 0, .int .i64 0, .int .i64 10, .int .i64 k, .int .i64 0] 23))
  have HGC := Lib.hid (And.intro (hta.trans hT1) (show wa.heap.size < (wa.alloc (.cells #[.int .i64 0, .int .i64 128, .int .i64 0, .int .i64 0, .int .i64 0, .int .i64 1000, .int .i64 3, .int .i64 1, .int .i64 60, .int .i64 0, .int .i64 0, .int .i64 10, .int .i64 k, .int .i64 0] 23)).heap.size by simp))
  have HX := Lib.hid x12
  clear hp hta hT1 hbx
  go_wp2_with fail
  refine hn.mono ?_
  rintro e w0 ⟨g, gr, gw, rfl, hs0, ht0, hg, hgr, hgw⟩
  have HGG : Hid (w.heap.size ≤ g ∧ w.heap.size ≤ gr ∧ w.heap.size ≤ gw ∧ wa.heap.size ∉ [g, gr, gw] ∧ wa.heap.size < w0.heap.size) := Lib.hid (by have := HGC.out.1.size; have := HGC.out.2; have := ht0.size; simp; omega)
  have HO : Hid (∀ j ∈ [g, gr, gw], j ∈ ([] : List Nat) ∨ w.heap.size ≤ j) := Lib.hid (by have := HGG.out; intro j hj; simp at hj; omega)
  have hcc : w0.cell? ⟨wa.heap.size, 12, none⟩ = some (.int .i64 k) := (ht0.cell (p := ⟨wa.heap.size, 12, none⟩) HGC.out.2 (by simp)).trans HX.out
  have HS0 := Lib.hid (And.intro hs0 (And.intro (HGC.out.1.trans ht0) hcc))
  clear hn ht0 hg hgr hgw hs0 hcc x0 x1 x2 x3 x4 x5 x6 x7 x8 x9 x10 x11 x12 x13
  go_wp2
  go_loopw [8] (fun x wr => ∃ (kx : Nat) (p : PS), 1 ≤ kx ∧ kx ≤ mm + 1 ∧ x = .int .i64 (kx : Int) ∧ p.bad = min ((kx : Int) - 1) (k + 1) ∧ PP wr g gr gw p 0 ∧ Fix (pl k) p ∧ Turn [] w wr ∧ wr.cell? ⟨wa.heap.size, 12, none⟩ = some (.int .i64 k) ∧ wa.heap.size < wr.heap.size) (fun x _ => mm + 1 - (intOf x).toNat)
  case atStart => exact ⟨1, _, by omega, by omega, rfl, (by show (0 : Int) = _; omega), HS0.out.1, Fix.refl _, HS0.out.2.1, HS0.out.2.2, HGG.out.2.2.2.2⟩
  case round =>
    obtain ⟨kx, p, hk1, hi', rfl, hpb, hs, hfp, hT, hcc, hgcl⟩ := hrel
    have HT := Lib.hid hT
    by_cases hil : kx ≤ mm
    · have hil2 : decide ((kx : Int) ≤ (mm : Int)) = true := by simp; omega
      have hgcn : wa.heap.size ∉ [g, gr, gw] := HGG.out.2.2.2.1
      have hgd := hs.good
      have hpm : p.may = k := hfp.may
      obtain ⟨q, hq⟩ : ∃ q, q = p.timeout := ⟨_, rfl⟩
      have hqb : q.bad = min (kx : Int) (k + 1) := by rw [hq, show p.timeout.bad = min p.bad p.may + 1 from rfl, hpb, hpm]; omega
      have hqf : Fix (pl k) q := by rw [hq]; exact hfp.trans (fix_timeout p)
      have hqs : q.size = 128 := by rw [hq]; exact hfp.mtu
      obtain ⟨e1, he1⟩ : ∃ e1 : Bool, decide ((kx : Int) = k + 1) = e1 := ⟨_, rfl⟩
      have hbe : ((kx : Int) == k + 1) = e1 := by rw [← he1]; rfl
      have hpt : p.tells = e1 := by
        rw [tells_iff hgd, hpb, hpm, ← he1, decide_eq_decide]
        omega
      obtain ⟨e2, he2⟩ : ∃ e2 : Bool, decide ((kx : Int) ≤ k) = e2 := ⟨_, rfl⟩
      have hqa : q.active = e2 := by
        unfold PS.active
        rw [hqb, hqf.may, show (pl k).may = k from rfl, ← he2, decide_eq_decide]
        omega
      have HTO := Lib.hid (fun W (h : PP W g gr gw p 0) => ptimeout_at W g gr gw p q 0 e1 h hpt hq.symm)
      have HA := Lib.hid (fun W (h : PP W g gr gw q 0) => pactive_at W g gr gw q 0 e2 h hqa)
      have HF := Lib.hid (fun W (h : PP W g gr gw q 0) => pfailures_at W g gr gw q 0 _ h hqb)
      have HS := Lib.hid (fun W (h : PP W g gr gw q 0) => psize_at W g gr gw q 0 128 h hqs)
      have HW := Lib.hid (show IntKind.i64.wrap (k + 1) = k + 1 from IntWalk.i64_in _ (by omega))
      have HQ := Lib.hid (And.intro hqb hqf)
      clear he1 hpt hqa hqb hqf hqs hq hgd hpm hpb hT hfp
      go_upto_region 8 with fail
      refine wp_region_any (by kernel_rfl) ?_
      refine Vals.wpAny_goodW (ROnce g (wa.heap.size) kx k e1 e2) (J1 1 [g, gr, gw] wr (fun W => PP W g gr gw p 0) (fun W => PP W g gr gw q 0)) [some 25, some 26, some 27, some 28, some 29, some 30, some 31, some 32, some 33, some 34, some 35, some 36, some 37, some 38, some 39, some 40, some 41, some 42, some 43, some 44, some 45, some 46, some 47, some 48, some 49, some 50, some 51, some 52, some 53, some 54, some 55, some 56] 69 _ _ rfl (by kernel_rfl) (by kernel_rfl) (by decide) ?step ?fin ⟨(Turn.refl _ _).drew, fun _ => hs.turn (Turn.refl [] wr).drew (by simp) (by simp) (by simp), (fun h => by simp at h)⟩
      case step =>
        intro i o d ho hd listed a W hls hun hcl hJ hdf hdep hfr K hK
        match i, ho, hd with
        | 0, ho, hd =>
          have ho' := ho
          simp only [List.getElem?_toArray, List.getElem?_cons_zero, Option.some.injEq] at ho hd
          subst ho hd
          have r6 : a.eval (.tmp 6) = .pointer (some ⟨g, 0, none⟩) := hfr 6 (by decide)
          rw [Vals.eval_tmp] at r6
          refine Vals.wpOp_run ho' rfl ?_
          clear hdep hfr ho' hdf hcl
          go_simp
          exact hK _ _ (fun _ _ h => h) (hJ.keep (by decide)) (fun _ => rfl)
        | 1, ho, hd =>
          have ho' := ho
          simp only [List.getElem?_toArray, List.getElem?_cons_zero, List.getElem?_cons_succ, Option.some.injEq] at ho hd
          subst ho hd
          have r25 : a.eval (.tmp 25) = .pointer (some ⟨g, 0, none⟩) := (hdep ⟨0, .data⟩ (by simp) rfl).2 25 rfl
          rw [Vals.eval_tmp] at r25
          refine Vals.wpOp_run ho' rfl ?_
          clear hdep hfr ho' hdf hcl
          go_simp
          refine (HTO.out W (hJ.2.1 (Vals.getD_true_false hun))).mono ?_
          rintro e w' ⟨rfl, hs', ht'⟩
          exact hK _ _ (fun j x h => ROnce_any j x h) (hJ.first (by rw [hls]; decide) ht' hs') (fun _ => rfl)
        | 2, ho, hd =>
          have ho' := ho
          simp only [List.getElem?_toArray, List.getElem?_cons_zero, List.getElem?_cons_succ, Option.some.injEq] at ho hd
          subst ho hd
          have r8 : a.eval (.tmp 8) = .int .i64 (kx : Int) := hfr 8 (by decide)
          rw [Vals.eval_tmp] at r8
          refine Vals.wpOp_run ho' rfl ?_
          clear hdep hfr ho' hdf hcl
          go_simp
          exact hK _ _ (fun _ _ h => h) (hJ.keep (by decide)) (fun _ => rfl)
        | 3, ho, hd =>
          have ho' := ho
          simp only [List.getElem?_toArray, List.getElem?_cons_zero, List.getElem?_cons_succ, Option.some.injEq] at ho hd
          subst ho hd
          have r5 : a.eval (.tmp 5) = .pointer (some ⟨(wa.heap.size), 0, none⟩) := hfr 5 (by decide)
          rw [Vals.eval_tmp] at r5
          refine Vals.wpOp_run ho' rfl ?_
          clear hdep hfr ho' hdf hcl
          go_simp
          exact hK _ _ (fun _ _ h => h) (hJ.keep (by decide)) (fun _ => rfl)
        | 4, ho, hd =>
          have ho' := ho
          simp only [List.getElem?_toArray, List.getElem?_cons_zero, List.getElem?_cons_succ, Option.some.injEq] at ho hd
          subst ho hd
          have r28 : a.eval (.tmp 28) = .pointer (some ⟨(wa.heap.size), 12, none⟩) := (hdep ⟨3, .data⟩ (by simp) rfl).2 28 rfl
          rw [Vals.eval_tmp] at r28
          have c0 := (hJ.1.cell (p := ⟨wa.heap.size, 12, none⟩) hgcl hgcn).trans hcc
          refine Vals.wpOp_run ho' rfl ?_
          clear hdep hfr ho' hdf hcl
          go_simp
          exact hK _ _ (fun _ _ h => h) (hJ.keep (by decide)) (fun _ => rfl)
        | 5, ho, hd =>
          have ho' := ho
          simp only [List.getElem?_toArray, List.getElem?_cons_zero, List.getElem?_cons_succ, Option.some.injEq] at ho hd
          subst ho hd
          have r29 : a.eval (.tmp 29) = .int .i64 k := (hdep ⟨4, .data⟩ (by simp) rfl).2 29 rfl
          rw [Vals.eval_tmp] at r29
          refine Vals.wpOp_run ho' rfl ?_
          clear hdep hfr ho' hdf hcl
          go_simp
          exact hK _ _ (fun _ _ h => h) (hJ.keep (by decide)) (fun _ => by first | rfl | exact congrArg (Value.int _) HW.out)
        | 6, ho, hd =>
          have ho' := ho
          simp only [List.getElem?_toArray, List.getElem?_cons_zero, List.getElem?_cons_succ, Option.some.injEq] at ho hd
          subst ho hd
          have r27 : a.eval (.tmp 27) = .int .i64 (kx : Int) := (hdep ⟨2, .data⟩ (by simp) rfl).2 27 rfl
          rw [Vals.eval_tmp] at r27
          have r30 : a.eval (.tmp 30) = .int .i64 (k + 1) := (hdep ⟨5, .data⟩ (by simp) rfl).2 30 rfl
          rw [Vals.eval_tmp] at r30
          refine Vals.wpOp_run ho' rfl ?_
          clear hdep hfr ho' hdf hcl
          go_simp
          exact hK _ _ (fun _ _ h => h) (hJ.keep (by decide)) (fun _ => rfl)
        | 7, ho, hd =>
          have ho' := ho
          simp only [List.getElem?_toArray, List.getElem?_cons_zero, List.getElem?_cons_succ, Option.some.injEq] at ho hd
          subst ho hd
          have r26 : a.eval (.tmp 26) = .bool e1 := (hdep ⟨1, .data⟩ (by simp) rfl).2 26 rfl
          rw [Vals.eval_tmp] at r26
          have r31 : a.eval (.tmp 31) = .bool e1 := (hdep ⟨6, .data⟩ (by simp) rfl).2 31 rfl
          rw [Vals.eval_tmp] at r31
          refine Vals.wpOp_run ho' rfl ?_
          clear hdep hfr ho' hdf hcl
          go_simp
          exact hK _ _ (fun _ _ h => h) (hJ.keep (by decide)) (fun _ => rfl)
        | 8, ho, hd =>
          have ho' := ho
          simp only [List.getElem?_toArray, List.getElem?_cons_zero, List.getElem?_cons_succ, Option.some.injEq] at ho hd
          subst ho hd
          have r32 : a.eval (.tmp 32) = .bool false := (hdep ⟨7, .data⟩ (by simp) rfl).2 32 rfl
          rw [Vals.eval_tmp] at r32
          refine Vals.wpOp_run ho' rfl ?_
          clear hdep hfr ho' hdf hcl
          go_simp
          exact hK _ _ (fun _ _ h => h) (hJ.keep (by decide)) (fun _ => rfl)
        | 9, ho, hd =>
          have ho' := ho
          simp only [List.getElem?_toArray, List.getElem?_cons_zero, List.getElem?_cons_succ, Option.some.injEq] at ho hd
          subst ho hd
          have hgd : a.eval (.tmp 33) = .bool false := (hdep ⟨8, .guard⟩ (by simp) rfl).2 33 rfl
          have r6 : a.eval (.tmp 6) = .pointer (some ⟨g, 0, none⟩) := hfr 6 (by decide)
          rw [Vals.eval_tmp] at r6
          refine Vals.wpOp_run ho' (by unfold Region.wanted; simp only []; rw [Vals.yielded_of (d := 33) rfl hgd]; rfl) ?_
          clear hdep hfr ho' hdf hgd hcl
          go_simp
          exact hK _ _ (fun _ _ h => h) (hJ.keep (by decide)) (fun _ => rfl)
        | 10, ho, hd =>
          have ho' := ho
          simp only [List.getElem?_toArray, List.getElem?_cons_zero, List.getElem?_cons_succ, Option.some.injEq] at ho hd
          subst ho hd
          have hgd : a.eval (.tmp 33) = .bool false := (hdep ⟨8, .guard⟩ (by simp) rfl).2 33 rfl
          have r34 : a.eval (.tmp 34) = .pointer (some ⟨g, 0, none⟩) := (hdep ⟨9, .data⟩ (by simp) rfl).2 34 rfl
          rw [Vals.eval_tmp] at r34
          have l8 := (hdep ⟨8, .guard⟩ (by simp) rfl).1
          have l7 := hcl 8 _ rfl l8 ⟨7, .data⟩ (by simp) rfl
          have l1 := hcl 7 _ rfl l7 ⟨1, .data⟩ (by simp) rfl
          have hJ1 := hJ.2.2 l1
          clear l8 l7 l1
          refine Vals.wpOp_run ho' (by unfold Region.wanted; simp only []; rw [Vals.yielded_of (d := 33) rfl hgd]; rfl) ?_
          clear hdep hfr ho' hdf hgd hcl
          go_simp
          refine (HA.out W hJ1).mono ?_
          rintro e w' ⟨rfl, m, rfl⟩
          exact hK _ _ (fun j x h => ROnce_any j x h) (hJ.quiet (by decide) ((Turn.refl [] W).drewN m) (fun h => h.drawn m) (fun h => h.drawn m)) (fun _ => rfl)
        | 11, ho, hd =>
          have ho' := ho
          simp only [List.getElem?_toArray, List.getElem?_cons_zero, List.getElem?_cons_succ, Option.some.injEq] at ho hd
          subst ho hd
          have hgd : a.eval (.tmp 33) = .bool false := (hdep ⟨8, .guard⟩ (by simp) rfl).2 33 rfl
          have r8 : a.eval (.tmp 8) = .int .i64 (kx : Int) := hfr 8 (by decide)
          rw [Vals.eval_tmp] at r8
          refine Vals.wpOp_run ho' (by unfold Region.wanted; simp only []; rw [Vals.yielded_of (d := 33) rfl hgd]; rfl) ?_
          clear hdep hfr ho' hdf hgd hcl
          go_simp
          exact hK _ _ (fun _ _ h => h) (hJ.keep (by decide)) (fun _ => rfl)
        | 12, ho, hd =>
          have ho' := ho
          simp only [List.getElem?_toArray, List.getElem?_cons_zero, List.getElem?_cons_succ, Option.some.injEq] at ho hd
          subst ho hd
          have hgd : a.eval (.tmp 33) = .bool false := (hdep ⟨8, .guard⟩ (by simp) rfl).2 33 rfl
          have r5 : a.eval (.tmp 5) = .pointer (some ⟨(wa.heap.size), 0, none⟩) := hfr 5 (by decide)
          rw [Vals.eval_tmp] at r5
          refine Vals.wpOp_run ho' (by unfold Region.wanted; simp only []; rw [Vals.yielded_of (d := 33) rfl hgd]; rfl) ?_
          clear hdep hfr ho' hdf hgd hcl
          go_simp
          exact hK _ _ (fun _ _ h => h) (hJ.keep (by decide)) (fun _ => rfl)
        | 13, ho, hd =>
          have ho' := ho
          simp only [List.getElem?_toArray, List.getElem?_cons_zero, List.getElem?_cons_succ, Option.some.injEq] at ho hd
          subst ho hd
          have hgd : a.eval (.tmp 33) = .bool false := (hdep ⟨8, .guard⟩ (by simp) rfl).2 33 rfl
          have r37 : a.eval (.tmp 37) = .pointer (some ⟨(wa.heap.size), 12, none⟩) := (hdep ⟨12, .data⟩ (by simp) rfl).2 37 rfl
          rw [Vals.eval_tmp] at r37
          have c0 := (hJ.1.cell (p := ⟨wa.heap.size, 12, none⟩) hgcl hgcn).trans hcc
          refine Vals.wpOp_run ho' (by unfold Region.wanted; simp only []; rw [Vals.yielded_of (d := 33) rfl hgd]; rfl) ?_
          clear hdep hfr ho' hdf hgd hcl
          go_simp
          exact hK _ _ (fun _ _ h => h) (hJ.keep (by decide)) (fun _ => rfl)
        | 14, ho, hd =>
          have ho' := ho
          simp only [List.getElem?_toArray, List.getElem?_cons_zero, List.getElem?_cons_succ, Option.some.injEq] at ho hd
          subst ho hd
          have hgd : a.eval (.tmp 33) = .bool false := (hdep ⟨8, .guard⟩ (by simp) rfl).2 33 rfl
          have r36 : a.eval (.tmp 36) = .int .i64 (kx : Int) := (hdep ⟨11, .data⟩ (by simp) rfl).2 36 rfl
          rw [Vals.eval_tmp] at r36
          have r38 : a.eval (.tmp 38) = .int .i64 k := (hdep ⟨13, .data⟩ (by simp) rfl).2 38 rfl
          rw [Vals.eval_tmp] at r38
          refine Vals.wpOp_run ho' (by unfold Region.wanted; simp only []; rw [Vals.yielded_of (d := 33) rfl hgd]; rfl) ?_
          clear hdep hfr ho' hdf hgd hcl
          go_simp
          exact hK _ _ (fun _ _ h => h) (hJ.keep (by decide)) (fun _ => rfl)
        | 15, ho, hd =>
          have ho' := ho
          simp only [List.getElem?_toArray, List.getElem?_cons_zero, List.getElem?_cons_succ, Option.some.injEq] at ho hd
          subst ho hd
          have hgd : a.eval (.tmp 33) = .bool false := (hdep ⟨8, .guard⟩ (by simp) rfl).2 33 rfl
          have r35 : a.eval (.tmp 35) = .bool e2 := (hdep ⟨10, .data⟩ (by simp) rfl).2 35 rfl
          rw [Vals.eval_tmp] at r35
          have r39 : a.eval (.tmp 39) = .bool e2 := (hdep ⟨14, .data⟩ (by simp) rfl).2 39 rfl
          rw [Vals.eval_tmp] at r39
          refine Vals.wpOp_run ho' (by unfold Region.wanted; simp only []; rw [Vals.yielded_of (d := 33) rfl hgd]; rfl) ?_
          clear hdep hfr ho' hdf hgd hcl
          go_simp
          exact hK _ _ (fun _ _ h => h) (hJ.keep (by decide)) (fun _ => rfl)
        | 16, ho, hd =>
          have ho' := ho
          simp only [List.getElem?_toArray, List.getElem?_cons_zero, List.getElem?_cons_succ, Option.some.injEq] at ho hd
          subst ho hd
          have r33 : a.eval (.tmp 33) = .bool false := (hdep ⟨8, .data⟩ (by simp) rfl).2 33 rfl
          rw [Vals.eval_tmp] at r33
          have r40 : a.eval (.tmp 40) = .bool false := (hdep ⟨15, .data⟩ (by simp) rfl).2 40 rfl
          rw [Vals.eval_tmp] at r40
          refine Vals.wpOp_run ho' rfl ?_
          clear hdep hfr ho' hdf hcl
          go_simp
          exact hK _ _ (fun _ _ h => h) (hJ.keep (by decide)) (fun _ => rfl)
        | 17, ho, hd =>
          have ho' := ho
          simp only [List.getElem?_toArray, List.getElem?_cons_zero, List.getElem?_cons_succ, Option.some.injEq] at ho hd
          subst ho hd
          have r41 : a.eval (.tmp 41) = .bool false := (hdep ⟨16, .data⟩ (by simp) rfl).2 41 rfl
          rw [Vals.eval_tmp] at r41
          refine Vals.wpOp_run ho' rfl ?_
          clear hdep hfr ho' hdf hcl
          go_simp
          exact hK _ _ (fun _ _ h => h) (hJ.keep (by decide)) (fun _ => rfl)
        | 18, ho, hd =>
          have ho' := ho
          simp only [List.getElem?_toArray, List.getElem?_cons_zero, List.getElem?_cons_succ, Option.some.injEq] at ho hd
          subst ho hd
          have hgd : a.eval (.tmp 42) = .bool false := (hdep ⟨17, .guard⟩ (by simp) rfl).2 42 rfl
          have r6 : a.eval (.tmp 6) = .pointer (some ⟨g, 0, none⟩) := hfr 6 (by decide)
          rw [Vals.eval_tmp] at r6
          refine Vals.wpOp_run ho' (by unfold Region.wanted; simp only []; rw [Vals.yielded_of (d := 42) rfl hgd]; rfl) ?_
          clear hdep hfr ho' hdf hgd hcl
          go_simp
          exact hK _ _ (fun _ _ h => h) (hJ.keep (by decide)) (fun _ => rfl)
        | 19, ho, hd =>
          have ho' := ho
          simp only [List.getElem?_toArray, List.getElem?_cons_zero, List.getElem?_cons_succ, Option.some.injEq] at ho hd
          subst ho hd
          have hgd : a.eval (.tmp 42) = .bool false := (hdep ⟨17, .guard⟩ (by simp) rfl).2 42 rfl
          have r43 : a.eval (.tmp 43) = .pointer (some ⟨g, 0, none⟩) := (hdep ⟨18, .data⟩ (by simp) rfl).2 43 rfl
          rw [Vals.eval_tmp] at r43
          have l17 := (hdep ⟨17, .guard⟩ (by simp) rfl).1
          have l16 := hcl 17 _ rfl l17 ⟨16, .data⟩ (by simp) rfl
          have l8 := hcl 16 _ rfl l16 ⟨8, .data⟩ (by simp) rfl
          have l7 := hcl 8 _ rfl l8 ⟨7, .data⟩ (by simp) rfl
          have l1 := hcl 7 _ rfl l7 ⟨1, .data⟩ (by simp) rfl
          have hJ1 := hJ.2.2 l1
          clear l17 l16 l8 l7 l1
          refine Vals.wpOp_run ho' (by unfold Region.wanted; simp only []; rw [Vals.yielded_of (d := 42) rfl hgd]; rfl) ?_
          clear hdep hfr ho' hdf hgd hcl
          go_simp
          refine (HF.out W hJ1).mono ?_
          rintro e w' ⟨rfl, rfl⟩
          exact hK _ _ (fun j x h => ROnce_any j x h) (hJ.keep (by decide)) (fun _ => rfl)
        | 20, ho, hd =>
          have ho' := ho
          simp only [List.getElem?_toArray, List.getElem?_cons_zero, List.getElem?_cons_succ, Option.some.injEq] at ho hd
          subst ho hd
          have hgd : a.eval (.tmp 42) = .bool false := (hdep ⟨17, .guard⟩ (by simp) rfl).2 42 rfl
          have r8 : a.eval (.tmp 8) = .int .i64 (kx : Int) := hfr 8 (by decide)
          rw [Vals.eval_tmp] at r8
          refine Vals.wpOp_run ho' (by unfold Region.wanted; simp only []; rw [Vals.yielded_of (d := 42) rfl hgd]; rfl) ?_
          clear hdep hfr ho' hdf hgd hcl
          go_simp
          exact hK _ _ (fun _ _ h => h) (hJ.keep (by decide)) (fun _ => rfl)
        | 21, ho, hd =>
          have ho' := ho
          simp only [List.getElem?_toArray, List.getElem?_cons_zero, List.getElem?_cons_succ, Option.some.injEq] at ho hd
          subst ho hd
          have hgd : a.eval (.tmp 42) = .bool false := (hdep ⟨17, .guard⟩ (by simp) rfl).2 42 rfl
          have r5 : a.eval (.tmp 5) = .pointer (some ⟨(wa.heap.size), 0, none⟩) := hfr 5 (by decide)
          rw [Vals.eval_tmp] at r5
          refine Vals.wpOp_run ho' (by unfold Region.wanted; simp only []; rw [Vals.yielded_of (d := 42) rfl hgd]; rfl) ?_
          clear hdep hfr ho' hdf hgd hcl
          go_simp
          exact hK _ _ (fun _ _ h => h) (hJ.keep (by decide)) (fun _ => rfl)
        | 22, ho, hd =>
          have ho' := ho
          simp only [List.getElem?_toArray, List.getElem?_cons_zero, List.getElem?_cons_succ, Option.some.injEq] at ho hd
          subst ho hd
          have hgd : a.eval (.tmp 42) = .bool false := (hdep ⟨17, .guard⟩ (by simp) rfl).2 42 rfl
          have r46 : a.eval (.tmp 46) = .pointer (some ⟨(wa.heap.size), 12, none⟩) := (hdep ⟨21, .data⟩ (by simp) rfl).2 46 rfl
          rw [Vals.eval_tmp] at r46
          have c0 := (hJ.1.cell (p := ⟨wa.heap.size, 12, none⟩) hgcl hgcn).trans hcc
          refine Vals.wpOp_run ho' (by unfold Region.wanted; simp only []; rw [Vals.yielded_of (d := 42) rfl hgd]; rfl) ?_
          clear hdep hfr ho' hdf hgd hcl
          go_simp
          exact hK _ _ (fun _ _ h => h) (hJ.keep (by decide)) (fun _ => rfl)
        | 23, ho, hd =>
          have ho' := ho
          simp only [List.getElem?_toArray, List.getElem?_cons_zero, List.getElem?_cons_succ, Option.some.injEq] at ho hd
          subst ho hd
          have hgd : a.eval (.tmp 42) = .bool false := (hdep ⟨17, .guard⟩ (by simp) rfl).2 42 rfl
          have r47 : a.eval (.tmp 47) = .int .i64 k := (hdep ⟨22, .data⟩ (by simp) rfl).2 47 rfl
          rw [Vals.eval_tmp] at r47
          refine Vals.wpOp_run ho' (by unfold Region.wanted; simp only []; rw [Vals.yielded_of (d := 42) rfl hgd]; rfl) ?_
          clear hdep hfr ho' hdf hgd hcl
          go_simp
          exact hK _ _ (fun _ _ h => h) (hJ.keep (by decide)) (fun _ => by first | rfl | exact congrArg (Value.int _) HW.out)
        | 24, ho, hd =>
          have ho' := ho
          simp only [List.getElem?_toArray, List.getElem?_cons_zero, List.getElem?_cons_succ, Option.some.injEq] at ho hd
          subst ho hd
          have hgd : a.eval (.tmp 42) = .bool false := (hdep ⟨17, .guard⟩ (by simp) rfl).2 42 rfl
          have r45 : a.eval (.tmp 45) = .int .i64 (kx : Int) := (hdep ⟨20, .data⟩ (by simp) rfl).2 45 rfl
          rw [Vals.eval_tmp] at r45
          have r48 : a.eval (.tmp 48) = .int .i64 (k + 1) := (hdep ⟨23, .data⟩ (by simp) rfl).2 48 rfl
          rw [Vals.eval_tmp] at r48
          refine Vals.wpOp_run ho' (by unfold Region.wanted; simp only []; rw [Vals.yielded_of (d := 42) rfl hgd]; rfl) ?_
          clear hdep hfr ho' hdf hgd hcl
          go_simp
          exact hK _ _ (fun _ _ h => h) (hJ.keep (by decide)) (fun _ => rfl)
        | 25, ho, hd =>
          have ho' := ho
          simp only [List.getElem?_toArray, List.getElem?_cons_zero, List.getElem?_cons_succ, Option.some.injEq] at ho hd
          subst ho hd
          have hgd : a.eval (.tmp 42) = .bool false := (hdep ⟨17, .guard⟩ (by simp) rfl).2 42 rfl
          have r44 : a.eval (.tmp 44) = .int .i64 (min (kx : Int) (k + 1)) := (hdep ⟨19, .data⟩ (by simp) rfl).2 44 rfl
          rw [Vals.eval_tmp] at r44
          have r49 : a.eval (.tmp 49) = .int .i64 (min (kx : Int) (k + 1)) := (hdep ⟨24, .data⟩ (by simp) rfl).2 49 rfl
          rw [Vals.eval_tmp] at r49
          refine Vals.wpOp_run ho' (by unfold Region.wanted; simp only []; rw [Vals.yielded_of (d := 42) rfl hgd]; rfl) ?_
          clear hdep hfr ho' hdf hgd hcl
          go_simp
          exact hK _ _ (fun _ _ h => h) (hJ.keep (by decide)) (fun _ => rfl)
        | 26, ho, hd =>
          have ho' := ho
          simp only [List.getElem?_toArray, List.getElem?_cons_zero, List.getElem?_cons_succ, Option.some.injEq] at ho hd
          subst ho hd
          have r42 : a.eval (.tmp 42) = .bool false := (hdep ⟨17, .data⟩ (by simp) rfl).2 42 rfl
          rw [Vals.eval_tmp] at r42
          have r50 : a.eval (.tmp 50) = .bool false := (hdep ⟨25, .data⟩ (by simp) rfl).2 50 rfl
          rw [Vals.eval_tmp] at r50
          refine Vals.wpOp_run ho' rfl ?_
          clear hdep hfr ho' hdf hcl
          go_simp
          exact hK _ _ (fun _ _ h => h) (hJ.keep (by decide)) (fun _ => rfl)
        | 27, ho, hd =>
          have ho' := ho
          simp only [List.getElem?_toArray, List.getElem?_cons_zero, List.getElem?_cons_succ, Option.some.injEq] at ho hd
          subst ho hd
          have r51 : a.eval (.tmp 51) = .bool false := (hdep ⟨26, .data⟩ (by simp) rfl).2 51 rfl
          rw [Vals.eval_tmp] at r51
          refine Vals.wpOp_run ho' rfl ?_
          clear hdep hfr ho' hdf hcl
          go_simp
          exact hK _ _ (fun _ _ h => h) (hJ.keep (by decide)) (fun _ => rfl)
        | 28, ho, hd =>
          have ho' := ho
          simp only [List.getElem?_toArray, List.getElem?_cons_zero, List.getElem?_cons_succ, Option.some.injEq] at ho hd
          subst ho hd
          have hgd : a.eval (.tmp 52) = .bool false := (hdep ⟨27, .guard⟩ (by simp) rfl).2 52 rfl
          have r6 : a.eval (.tmp 6) = .pointer (some ⟨g, 0, none⟩) := hfr 6 (by decide)
          rw [Vals.eval_tmp] at r6
          refine Vals.wpOp_run ho' (by unfold Region.wanted; simp only []; rw [Vals.yielded_of (d := 52) rfl hgd]; rfl) ?_
          clear hdep hfr ho' hdf hgd hcl
          go_simp
          exact hK _ _ (fun _ _ h => h) (hJ.keep (by decide)) (fun _ => rfl)
        | 29, ho, hd =>
          have ho' := ho
          simp only [List.getElem?_toArray, List.getElem?_cons_zero, List.getElem?_cons_succ, Option.some.injEq] at ho hd
          subst ho hd
          have hgd : a.eval (.tmp 52) = .bool false := (hdep ⟨27, .guard⟩ (by simp) rfl).2 52 rfl
          have r53 : a.eval (.tmp 53) = .pointer (some ⟨g, 0, none⟩) := (hdep ⟨28, .data⟩ (by simp) rfl).2 53 rfl
          rw [Vals.eval_tmp] at r53
          have l27 := (hdep ⟨27, .guard⟩ (by simp) rfl).1
          have l26 := hcl 27 _ rfl l27 ⟨26, .data⟩ (by simp) rfl
          have l17 := hcl 26 _ rfl l26 ⟨17, .data⟩ (by simp) rfl
          have l16 := hcl 17 _ rfl l17 ⟨16, .data⟩ (by simp) rfl
          have l8 := hcl 16 _ rfl l16 ⟨8, .data⟩ (by simp) rfl
          have l7 := hcl 8 _ rfl l8 ⟨7, .data⟩ (by simp) rfl
          have l1 := hcl 7 _ rfl l7 ⟨1, .data⟩ (by simp) rfl
          have hJ1 := hJ.2.2 l1
          clear l27 l26 l17 l16 l8 l7 l1
          refine Vals.wpOp_run ho' (by unfold Region.wanted; simp only []; rw [Vals.yielded_of (d := 52) rfl hgd]; rfl) ?_
          clear hdep hfr ho' hdf hgd hcl
          go_simp
          refine (HS.out W hJ1).mono ?_
          rintro e w' ⟨rfl, rfl⟩
          exact hK _ _ (fun j x h => ROnce_any j x h) (hJ.keep (by decide)) (fun _ => rfl)
        | 30, ho, hd =>
          have ho' := ho
          simp only [List.getElem?_toArray, List.getElem?_cons_zero, List.getElem?_cons_succ, Option.some.injEq] at ho hd
          subst ho hd
          have hgd : a.eval (.tmp 52) = .bool false := (hdep ⟨27, .guard⟩ (by simp) rfl).2 52 rfl
          have r54 : a.eval (.tmp 54) = .int .i64 128 := (hdep ⟨29, .data⟩ (by simp) rfl).2 54 rfl
          rw [Vals.eval_tmp] at r54
          refine Vals.wpOp_run ho' (by unfold Region.wanted; simp only []; rw [Vals.yielded_of (d := 52) rfl hgd]; rfl) ?_
          clear hdep hfr ho' hdf hgd hcl
          go_simp
          exact hK _ _ (fun _ _ h => h) (hJ.keep (by decide)) (fun _ => rfl)
        | 31, ho, hd =>
          have ho' := ho
          simp only [List.getElem?_toArray, List.getElem?_cons_zero, List.getElem?_cons_succ, Option.some.injEq] at ho hd
          subst ho hd
          have r52 : a.eval (.tmp 52) = .bool false := (hdep ⟨27, .data⟩ (by simp) rfl).2 52 rfl
          rw [Vals.eval_tmp] at r52
          have r55 : a.eval (.tmp 55) = .bool false := (hdep ⟨30, .data⟩ (by simp) rfl).2 55 rfl
          rw [Vals.eval_tmp] at r55
          refine Vals.wpOp_run ho' rfl ?_
          clear hdep hfr ho' hdf hcl
          go_simp
          exact hK _ _ (fun _ _ h => h) (hJ.keep (by decide)) (fun _ => rfl)
        | i + 32, ho, hd => simp at ho
      case fin =>
        intro listed W f' hall hJ hG
        have q0 : f' 25 = .pointer (some ⟨g, 0, none⟩) := hG 0 25 rfl
        have q1 : f' 26 = .bool e1 := hG 1 26 rfl
        have q2 : f' 27 = .int .i64 (kx : Int) := hG 2 27 rfl
        have q3 : f' 28 = .pointer (some ⟨(wa.heap.size), 12, none⟩) := hG 3 28 rfl
        have q4 : f' 29 = .int .i64 k := hG 4 29 rfl
        have q5 : f' 30 = .int .i64 (k + 1) := hG 5 30 rfl
        have q6 : f' 31 = .bool e1 := hG 6 31 rfl
        have q7 : f' 32 = .bool false := hG 7 32 rfl
        have q8 : f' 33 = .bool false := hG 8 33 rfl
        have q9 : f' 34 = .pointer (some ⟨g, 0, none⟩) := hG 9 34 rfl
        have q10 : f' 35 = .bool e2 := hG 10 35 rfl
        have q11 : f' 36 = .int .i64 (kx : Int) := hG 11 36 rfl
        have q12 : f' 37 = .pointer (some ⟨(wa.heap.size), 12, none⟩) := hG 12 37 rfl
        have q13 : f' 38 = .int .i64 k := hG 13 38 rfl
        have q14 : f' 39 = .bool e2 := hG 14 39 rfl
        have q15 : f' 40 = .bool false := hG 15 40 rfl
        have q16 : f' 41 = .bool false := hG 16 41 rfl
        have q17 : f' 42 = .bool false := hG 17 42 rfl
        have q18 : f' 43 = .pointer (some ⟨g, 0, none⟩) := hG 18 43 rfl
        have q19 : f' 44 = .int .i64 (min (kx : Int) (k + 1)) := hG 19 44 rfl
        have q20 : f' 45 = .int .i64 (kx : Int) := hG 20 45 rfl
        have q21 : f' 46 = .pointer (some ⟨(wa.heap.size), 12, none⟩) := hG 21 46 rfl
        have q22 : f' 47 = .int .i64 k := hG 22 47 rfl
        have q23 : f' 48 = .int .i64 (k + 1) := hG 23 48 rfl
        have q24 : f' 49 = .int .i64 (min (kx : Int) (k + 1)) := hG 24 49 rfl
        have q25 : f' 50 = .bool false := hG 25 50 rfl
        have q26 : f' 51 = .bool false := hG 26 51 rfl
        have q27 : f' 52 = .bool false := hG 27 52 rfl
        have q28 : f' 53 = .pointer (some ⟨g, 0, none⟩) := hG 28 53 rfl
        have q29 : f' 54 = .int .i64 128 := hG 29 54 rfl
        have q30 : f' 55 = .bool false := hG 30 55 rfl
        have q31 : f' 56 = .bool false := hG 31 56 rfl
        have hF1 := hJ.2.2 (hall 1 (by decide))
        have hF0 := hJ.1
        clear hG hall hJ
        simp only [Vals.puts, Vals.pairs, List.filterMap_cons, List.filterMap_nil, id, List.map_cons, List.map_nil, List.foldl_cons, List.foldl_nil, q0, q1, q2, q3, q4, q5, q6, q7, q8, q9, q10, q11, q12, q13, q14, q15, q16, q17, q18, q19, q20, q21, q22, q23, q24, q25, q26, q27, q28, q29, q30, q31]
        clear q0 q1 q2 q3 q4 q5 q6 q7 q8 q9 q10 q11 q12 q13 q14 q15 q16 q17 q18 q19 q20 q21 q22 q23 q24 q25 q26 q27 q28 q29 q30 q31
        go_frame
        have hcn := (hF0.cell (p := ⟨wa.heap.size, 12, none⟩) hgcl hgcn).trans hcc
        have hgl := Nat.lt_of_lt_of_le hgcl hF0.size
        have HTn := Lib.hid (HT.out.over hF0 HO.out)
        have HSn := Lib.hid (And.intro hF1 (And.intro hcn hgl))
        clear hF0 hF1 hcn hgl hs HTO HA HF HS
        go_simp
        go_wp2
        go_roundw
        case rel => exact ⟨kx + 1, q, by omega, by omega, by go_num, by rw [HQ.out.1]; omega, HSn.out.1, HQ.out.2, HTn.out, HSn.out.2.1, HSn.out.2.2⟩
        case measure => simp [intOf]; omega
    · obtain rfl : kx = mm + 1 := by omega
      have hil2 : decide (((mm + 1 : Nat) : Int) ≤ (mm : Int)) = false := by simp; omega
      have ha := panswered_any wr g gr gw p 0 hs
      have hans : p.answered.active = true := by
        show decide ((0 : Int) ≤ p.may) = true
        rw [hfp.may, show (pl k).may = k from rfl]
        simpa using hk.1
      have HAN := Lib.hid hans
      clear hT hs hfp hcc hgcl hpb hans
      go_wp2_with fail
      refine ha.mono ?_
      rintro e wb ⟨rfl, hsb, htb⟩
      have HTb := Lib.hid (HT.out.over (htb.mono (cs := [g, gr, gw]) (by simp)) HO.out)
      have hA := pactive_at wb g gr gw _ 0 true hsb HAN.out
      have HSb := Lib.hid hsb
      clear ha hsb htb
      go_wp2_with fail
      refine hA.mono ?_
      rintro e w' ⟨rfl, m, rfl⟩
      clear hA
      go_wp2_with fail
      refine (pfailures_at (wb.drewN m) g gr gw p.answered 0 0 (HSb.out.drawn m) rfl).mono ?_
      rintro e w' ⟨rfl, rfl⟩
      go_wp2_with fail
      refine (works_any (wb.drewN m)).mono ?_
      rintro e w6 ⟨rfl, ht6⟩
      have HT6 := Lib.hid ((HTb.out.drewN m).trans ht6)
      clear ht6
      go_wp2
      go_ret
      exact ⟨rfl, HT6.out.below (Nat.le_refl _) (by simp)⟩
end Go.Proofs.Ytkgfogepbclhkaa
