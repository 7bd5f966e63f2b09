/-
  Stage 10: the reference's Write. Written by genpk3.py.
-/
import Derived.Test.YtnndlpbbllmpjaaPkRef2
namespace Go.Proofs.Ytnndlpbbllmpjaa
open Go.RowKit
set_option linter.unusedVariables false
set_option linter.unusedSimpArgs false

theorem laidP_len' (tag sum : Int) (L : List PC) : (laidP tag sum L).length = 12 + (bodyP L).length := by unfold laidP; rw [List.length_append, headP_len]
theorem sumP_lt (tag : Int) (L : List PC) : sumP tag L < 4294967296 := ext_lt _ (by decide)

/-- What the operations of the drawn region leave behind. -/
def PkW (w w0 : World) (tag : Int) (aq : Option Addr) (n c : Nat) (L : List Ck) (i : Nat) (v : Value) (W : World) : Prop := match i with | 0 => v = .agg #[.int .u32 tag, .slice aq n c] | 1 => v = .agg #[.int .u32 tag, .slice aq n c] | 2 => ∃ a1 c1, v = .slice a1 (laidP tag 0 (pcs L)).length c1 ∧ Reads W a1 (laidP tag 0 (pcs L)).length (laidP tag 0 (pcs L)) | 3 => v = .int .u32 ((sumP tag (pcs L) : Nat) : Int) | 4 => ∃ a1 c1, v = .slice a1 (laidP tag ((sumP tag (pcs L) : Nat) : Int) (pcs L)).length c1 ∧ Reads W a1 (laidP tag ((sumP tag (pcs L) : Nat) : Int) (pcs L)).length (laidP tag ((sumP tag (pcs L) : Nat) : Int) (pcs L)) | 5 => ∃ a1_11 c1_11, v = .slice a1_11 (laidP tag ((sumP tag (pcs L) : Nat) : Int) (pcs L)).length c1_11 ∧ Reads W a1_11 (laidP tag ((sumP tag (pcs L) : Nat) : Int) (pcs L)).length (laidP tag ((sumP tag (pcs L) : Nat) : Int) (pcs L)) | _ => True
theorem PkW_mono {w w0 : World} {tag : Int} {aq : Option Addr} {n c : Nat} {L : List Ck} {W W' : World} (hb : Below W.heap.size W W') (jo : Nat) (xo : Value) (h : PkW w w0 tag aq n c L jo xo W) : PkW w w0 tag aq n c L jo xo W' := by
  unfold PkW at h ⊢
  split at h <;> try exact h
  · obtain ⟨a1, c1, e0, h0_0⟩ := h
    exact ⟨a1, c1, e0, h0_0.below hb⟩
  · obtain ⟨a1, c1, e0, h0_0⟩ := h
    exact ⟨a1, c1, e0, h0_0.below hb⟩
  · obtain ⟨a1_11, c1_11, e0, h0_0⟩ := h
    exact ⟨a1_11, c1_11, e0, h0_0.below hb⟩

set_option maxRecDepth 100000 in
set_option maxHeartbeats 3200000 in
theorem rwriteP_any (tag : Int) (aq : Option Addr) (n c : Nat) (L : List Ck) (w : World) (h : RowsCk w aq n c L) (hn : n ≤ 1099511627776) (ht : 0 ≤ tag) (ht1 : tag < 4294967296) (hz : 12 + (bodyP (pcs L)).length ≤ 1099511627776) :
    Calls Try.prog 17 #[.agg #[.int .u32 tag, .slice aq n c]] w fun e w' => ∃ a' c', e = .returned (.slice a' (writeP tag (pcs L)).length c') ∧ Below w.heap.size w w' ∧ Reads w' a' (writeP tag (pcs L)).length (writeP tag (pcs L)) := by
  obtain ⟨w0, hw0⟩ : ∃ w0, w.alloc (.cells #[.int .u32 tag, .slice aq n c] 25) = w0 := ⟨_, rfl⟩
  have hb0 : Below w.heap.size w w0 := by rw [← hw0]; exact (Below.refl _ _).alloc (Nat.le_refl _) _
  have hA : Arr w0 w.heap.size 25 [.int .u32 tag, .slice aq n c] := by rw [← hw0]; exact arr_new _ _ _
  have c1 := hA.cell (i := 1) rfl
  have HMAY := Lib.hid (rmay_any aq n c L w0 (h.below hb0) hn)
  have HR := Lib.hid h
  have HB0 := Lib.hid hb0
  have HA := Lib.hid hA
  have HZ := Lib.hid hz
  have HSL := Lib.hid (sumP_lt tag (pcs L))
  clear h hb0 hA hz
  cases hm : mayB (pcs L) with
  | false =>
    rw [hm] at HMAY
    have e : writeP tag (pcs L) = [] := by unfold writeP; rw [hm]; rfl
    rw [e]
    clear hm e
    go_enter Try.func17, Try.ntmps17
    go_wp2_with fail
    refine HMAY.out.mono ?_
    rintro e w' ⟨rfl, rfl⟩
    go_wp2
    go_ret
    exact ⟨none, 0, rfl, HB0.out, Reads.zero _ _⟩
  | true =>
  rw [hm] at HMAY
  have e : writeP tag (pcs L) = laidP tag ((sumP tag (pcs L) : Nat) : Int) (pcs L) := by unfold writeP; rw [if_pos hm]
  rw [e]
  clear hm e
  go_enter Try.func17, Try.ntmps17
  go_wp2_with fail
  refine HMAY.out.mono ?_
  rintro e w' ⟨rfl, rfl⟩
  go_wp2_with fail
  clear c1
  refine wp_region_any (by kernel_rfl) ?_
  refine Vals.wpAny_goodW (PkW w w0 tag aq n c L) (fun _ => (fun W => Below w0.heap.size w0 W)) [some 7, some 8, some 9, some 10, some 11, some 2] 12 _ _ rfl (by kernel_rfl) (by kernel_rfl) (by decide) ?step ?fin (Below.refl _ _).drew
  case step =>
    intro i o d ho hd listed a W hls hun hcl hJ hdf hdep hfr K hK
    match i, ho, hd with
    | 0, ho, hd =>
      have ho' := ho
      simp only [List.getElem?_toArray, List.getElem?_cons_zero, Option.some.injEq] at ho hd
      subst ho hd
      have r1 : a.eval (.tmp 1) = .pointer (some ⟨w.heap.size, 0, none⟩) := hfr 1 (by decide)
      rw [Vals.eval_tmp] at r1
      have c0 := (HA.out.keep hJ).cell (i := 0) rfl
      have c1 := (HA.out.keep hJ).cell (i := 1) rfl
      refine Vals.wpOp_run ho' rfl ?_
      clear hdep hfr ho' hdf hcl
      go_simp
      exact hK _ _ (fun _ _ h => h) hJ (fun _ => rfl)
    | 1, ho, hd =>
      have ho' := ho
      simp only [List.getElem?_toArray, List.getElem?_cons_zero, List.getElem?_cons_succ, Option.some.injEq] at ho hd
      subst ho hd
      have r1 : a.eval (.tmp 1) = .pointer (some ⟨w.heap.size, 0, none⟩) := hfr 1 (by decide)
      rw [Vals.eval_tmp] at r1
      have c0 := (HA.out.keep hJ).cell (i := 0) rfl
      have c1 := (HA.out.keep hJ).cell (i := 1) rfl
      refine Vals.wpOp_run ho' rfl ?_
      clear hdep hfr ho' hdf hcl
      go_simp
      exact hK _ _ (fun _ _ h => h) hJ (fun _ => rfl)
    | 2, ho, hd =>
      have ho' := ho
      simp only [List.getElem?_toArray, List.getElem?_cons_zero, List.getElem?_cons_succ, Option.some.injEq] at ho hd
      subst ho hd
      have r8 : a.eval (.tmp 8) = .agg #[.int .u32 tag, .slice aq n c] := (hdep ⟨1, .data⟩ (by simp) rfl).2 8 rfl
      rw [Vals.eval_tmp] at r8
      refine Vals.wpOp_run ho' rfl ?_
      clear hdep hfr ho' hdf hcl
      go_simp
      refine (rlaid_any tag 0 aq n c L W (HR.out.below (HB0.out.trans (hJ.mono HB0.out.size))) hn ht ht1 (by omega) (by omega) (by rw [laidP_len']; exact HZ.out)).mono ?_
      rintro e w' ⟨a1, c1, rfl, hb3, hr3⟩
      exact hK _ _ (PkW_mono hb3) (hJ.trans (hb3.mono hJ.size)) (fun _ => ⟨_, _, rfl, hr3.reads⟩)
    | 3, ho, hd =>
      have ho' := ho
      simp only [List.getElem?_toArray, List.getElem?_cons_zero, List.getElem?_cons_succ, Option.some.injEq] at ho hd
      subst ho hd
      have g9 : ∃ a1_9 c1_9, a.eval (.tmp 9) = .slice a1_9 (laidP tag 0 (pcs L)).length c1_9 ∧ Reads W a1_9 (laidP tag 0 (pcs L)).length (laidP tag 0 (pcs L)) := (hdep ⟨2, .data⟩ (by simp) rfl).2 9 rfl
      rw [Vals.eval_tmp] at g9
      obtain ⟨a1_9, c1_9, r9, h9_0⟩ := g9
      refine Vals.wpOp_run ho' rfl ?_
      clear hdep hfr ho' hdf hcl
      go_simp
      refine (sum_ref a1_9 _ c1_9 (laidP tag 0 (pcs L)) W h9_0 (laidP_byt (pcs_ok HR.out)) (by rw [laidP_len']; have := HZ.out; omega)).mono ?_
      rintro e w' ⟨rfl, rfl⟩
      exact hK _ _ (fun _ _ h => h) hJ (fun _ => rfl)
    | 4, ho, hd =>
      have ho' := ho
      simp only [List.getElem?_toArray, List.getElem?_cons_zero, List.getElem?_cons_succ, Option.some.injEq] at ho hd
      subst ho hd
      have r7 : a.eval (.tmp 7) = .agg #[.int .u32 tag, .slice aq n c] := (hdep ⟨0, .data⟩ (by simp) rfl).2 7 rfl
      rw [Vals.eval_tmp] at r7
      have r10 : a.eval (.tmp 10) = .int .u32 ((sumP tag (pcs L) : Nat) : Int) := (hdep ⟨3, .data⟩ (by simp) rfl).2 10 rfl
      rw [Vals.eval_tmp] at r10
      refine Vals.wpOp_run ho' rfl ?_
      clear hdep hfr ho' hdf hcl
      go_simp
      refine (rlaid_any tag ((sumP tag (pcs L) : Nat) : Int) aq n c L W (HR.out.below (HB0.out.trans (hJ.mono HB0.out.size))) hn ht ht1 (Int.natCast_nonneg _) (by have := HSL.out; omega) (by rw [laidP_len']; exact HZ.out)).mono ?_
      rintro e w' ⟨a1, c1, rfl, hb3, hr3⟩
      exact hK _ _ (PkW_mono hb3) (hJ.trans (hb3.mono hJ.size)) (fun _ => ⟨_, _, rfl, hr3.reads⟩)
    | 5, ho, hd =>
      have ho' := ho
      simp only [List.getElem?_toArray, List.getElem?_cons_zero, List.getElem?_cons_succ, Option.some.injEq] at ho hd
      subst ho hd
      have g11 : ∃ a1_11 c1_11, a.eval (.tmp 11) = .slice a1_11 (laidP tag ((sumP tag (pcs L) : Nat) : Int) (pcs L)).length c1_11 ∧ Reads W a1_11 (laidP tag ((sumP tag (pcs L) : Nat) : Int) (pcs L)).length (laidP tag ((sumP tag (pcs L) : Nat) : Int) (pcs L)) := (hdep ⟨4, .data⟩ (by simp) rfl).2 11 rfl
      rw [Vals.eval_tmp] at g11
      obtain ⟨a1_11, c1_11, r11, h11_0⟩ := g11
      refine Vals.wpOp_run ho' rfl ?_
      clear hdep hfr ho' hdf hcl
      go_simp
      exact hK _ _ (fun _ _ h => h) hJ (fun _ => ⟨_, _, rfl, h11_0⟩)
    | i + 6, ho, hd => simp at ho
  case fin =>
    intro listed W fq hall hJ hG
    have q0 : fq 7 = .agg #[.int .u32 tag, .slice aq n c] := hG 0 7 rfl
    have q1 : fq 8 = .agg #[.int .u32 tag, .slice aq n c] := hG 1 8 rfl
    obtain ⟨a1_9, c1_9, q2, hq9_0⟩ : ∃ a1_9 c1_9, fq 9 = .slice a1_9 (laidP tag 0 (pcs L)).length c1_9 ∧ Reads W a1_9 (laidP tag 0 (pcs L)).length (laidP tag 0 (pcs L)) := hG 2 9 rfl
    have q3 : fq 10 = .int .u32 ((sumP tag (pcs L) : Nat) : Int) := hG 3 10 rfl
    obtain ⟨a1_11, c1_11, q4, hq11_0⟩ : ∃ a1_11 c1_11, fq 11 = .slice a1_11 (laidP tag ((sumP tag (pcs L) : Nat) : Int) (pcs L)).length c1_11 ∧ Reads W a1_11 (laidP tag ((sumP tag (pcs L) : Nat) : Int) (pcs L)).length (laidP tag ((sumP tag (pcs L) : Nat) : Int) (pcs L)) := hG 4 11 rfl
    obtain ⟨a1_2, c1_2, q5, hq2_0⟩ : ∃ a1_2 c1_2, fq 2 = .slice a1_2 (laidP tag ((sumP tag (pcs L) : Nat) : Int) (pcs L)).length c1_2 ∧ Reads W a1_2 (laidP tag ((sumP tag (pcs L) : Nat) : Int) (pcs L)).length (laidP tag ((sumP tag (pcs L) : Nat) : Int) (pcs L)) := hG 5 2 rfl
    clear hG hall
    simp only [Vals.puts, Vals.pairs, List.filterMap_cons, List.filterMap_nil, id, List.map_cons, List.map_nil, List.foldl_cons, List.foldl_nil, q0, q1, q2, q3, q4, q5]
    clear q0 q1 q2 q3 q4 q5
    go_frame
    have HJ := Lib.hid (HB0.out.trans (hJ.mono HB0.out.size))
    have HRR := Lib.hid hq2_0
    clear hJ
    go_wp2
    go_ret
    exact ⟨_, _, rfl, HJ.out, HRR.out⟩

end Go.Proofs.Ytnndlpbbllmpjaa
