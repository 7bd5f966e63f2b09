/-
  The anchor of the crc statements: works() is true, and turns nothing that was there.
-/
import Derived.Test.YtinkelehdmlmfaaCrc1
import Derived.Test.YtinkelehdmlmfaaMark
import Derived.Test.YtinkelehdmlmfaaInv
import Derived.WalkLawsBesides
namespace Go.Proofs.Ytinkelehdmlmfaa
open Go.RowKit
set_option linter.unusedVariables false

theorem ext_12 : ext 0 [0, 0, 0, 0, 0, 0, 0, 0, 0, 0, 0, 0] = 727758173 := by decide +kernel
theorem ext_4 : ext 0 [49, 50, 51, 52] = 4131058926 := by decide +kernel
theorem ext_9 : ext 4131058926 [53, 54, 55, 56, 57] = 3808858755 := by decide +kernel

theorem zero_12 : ∀ i, i < 12 → ([0, 0, 0, 0, 0, 0, 0, 0, 0, 0, 0, 0] : List Int)[i]?.getD 0 = 0 := by decide

theorem Try.infoW : (Try.prog.info? 5).map (fun i => (i.zero, i.size, i.bytes)) = some (some (.int .u8 0), 1, 1) := by kernel_rfl

theorem reads_of {W : World} {g n : Nat} {zs : List Int} (hn : zs.length = n) (h0 : 0 < n) (h : ∀ i, i < n → W.cell? ⟨g, i, none⟩ = some (.int .u8 (zs[i]?.getD 0))) : Reads W (some ⟨g, 0, none⟩) n zs :=
  ⟨hn, .inr ⟨g, 0, rfl, World.block_lt_of_cell? W _ (h 0 h0), fun i hi => by rw [Nat.zero_add]; exact h i hi⟩⟩

theorem sum_12 (g : Nat) (W : World) (h : ∀ i, i < 12 → W.cell? ⟨g, i, none⟩ = some (.int .u8 0)) :
    Calls Try.prog 13 #[.slice (some ⟨g, 0, none⟩) 12 12] W fun e w' => e = .returned (.int .u32 727758173) ∧ W = w' := by
  have := sum_crc (some ⟨g, 0, none⟩) 12 12 [0, 0, 0, 0, 0, 0, 0, 0, 0, 0, 0, 0] W (reads_of rfl (by omega) (fun i hi => by rw [h i hi, zero_12 i hi])) (by intro z hz; simp at hz; omega) (by omega)
  rw [ext_12] at this
  exact this
theorem sumR_12 (g : Nat) (W : World) (h : ∀ i, i < 12 → W.cell? ⟨g, i, none⟩ = some (.int .u8 0)) :
    Calls Try.prog 18 #[.slice (some ⟨g, 0, none⟩) 12 12] W fun e w' => e = .returned (.int .u32 727758173) ∧ W = w' := by
  have := sum_ref (some ⟨g, 0, none⟩) 12 12 [0, 0, 0, 0, 0, 0, 0, 0, 0, 0, 0, 0] W (reads_of rfl (by omega) (fun i hi => by rw [h i hi, zero_12 i hi])) (by intro z hz; simp at hz; omega) (by omega)
  rw [ext_12] at this
  exact this
theorem sum_4 (g : Nat) (W : World) (h0 : W.cell? ⟨g, 0, none⟩ = some (.int .u8 49)) (h1 : W.cell? ⟨g, 1, none⟩ = some (.int .u8 50)) (h2 : W.cell? ⟨g, 2, none⟩ = some (.int .u8 51)) (h3 : W.cell? ⟨g, 3, none⟩ = some (.int .u8 52)) :
    Calls Try.prog 13 #[.slice (some ⟨g, 0, none⟩) 4 4] W fun e w' => e = .returned (.int .u32 4131058926) ∧ W = w' := by
  have := sum_crc (some ⟨g, 0, none⟩) 4 4 [49, 50, 51, 52] W (reads_of rfl (by omega) (fun i hi => by
    match i, hi with
    | 0, _ => exact h0
    | 1, _ => exact h1
    | 2, _ => exact h2
    | 3, _ => exact h3)) (by intro z hz; simp at hz; omega) (by omega)
  rw [ext_4] at this
  exact this
theorem ext_5 (g : Nat) (W : World) (h0 : W.cell? ⟨g, 0, none⟩ = some (.int .u8 53)) (h1 : W.cell? ⟨g, 1, none⟩ = some (.int .u8 54)) (h2 : W.cell? ⟨g, 2, none⟩ = some (.int .u8 55)) (h3 : W.cell? ⟨g, 3, none⟩ = some (.int .u8 56)) (h4 : W.cell? ⟨g, 4, none⟩ = some (.int .u8 57)) :
    Calls Try.prog 11 #[.int .u32 4131058926, .slice (some ⟨g, 0, none⟩) 5 5] W fun e w' => e = .returned (.int .u32 3808858755) ∧ W = w' := by
  have := extend_crc 4131058926 (some ⟨g, 0, none⟩) 5 5 [53, 54, 55, 56, 57] W (by omega) (reads_of rfl (by omega) (fun i hi => by
    match i, hi with
    | 0, _ => exact h0
    | 1, _ => exact h1
    | 2, _ => exact h2
    | 3, _ => exact h3
    | 4, _ => exact h4)) (by intro z hz; simp at hz; omega) (by omega)
  rw [ext_9] at this
  exact this
theorem sum_0 (W : World) : Calls Try.prog 13 #[.slice none 0 0] W fun e w' => e = .returned (.int .u32 0) ∧ W = w' := by
  have := sum_crc none 0 0 [] W (Reads.zero _ _) Byt.nil (by omega)
  rw [ext_nil] at this
  exact this

theorem made_12 (i : Nat) (hi : i < 12) : (madeCells #[Value.int .u8 0] 12)[i]? = some (.int .u8 0) := by
  rw [← Array.getElem?_toList, toList_madeCells_one]
  rw [List.getElem?_replicate, if_pos hi]

theorem eval_tmp (a : Act) (t : Nat) : a.eval (.tmp t) = a.tmps[t]?.getD undef := by simp [Act.eval]
theorem Ext.mark (W : World) (g : Nat) : Ext W (markW W g) := ⟨by rw [markW_size]; exact Nat.le_refl _, fun b o _ => markW_cell W g _⟩

/-- A row of the call's own with just these bytes. -/
def Lit8 (base : Nat) (L : List Int) (v : Value) (w : World) : Prop :=
  ∃ g, base ≤ g ∧ g < w.heap.size ∧ v = .slice (some ⟨g, 0, none⟩) L.length L.length ∧ ∀ i, i < L.length → w.cell? ⟨g, i, none⟩ = some (.int .u8 (L[i]?.getD 0))
theorem Lit8.ext {base : Nat} {L : List Int} {v : Value} {w w' : World} (h : Lit8 base L v w) (he : Ext w w') : Lit8 base L v w' := by
  obtain ⟨g, h1, h2, h3, h4⟩ := h
  exact ⟨g, h1, Nat.lt_of_lt_of_le h2 he.1, h3, fun i hi => (he.2 g i h2).trans (h4 i hi)⟩
theorem Lit8.reads {base : Nat} {L : List Int} {v : Value} {w : World} (h : Lit8 base L v w) : ∃ g, v = .slice (some ⟨g, 0, none⟩) L.length L.length ∧ Reads w (some ⟨g, 0, none⟩) L.length L := by
  obtain ⟨g, h1, h2, h3, h4⟩ := h
  exact ⟨g, h3, rfl, .inr ⟨g, 0, rfl, h2, fun i hi => by rw [Nat.zero_add]; exact h4 i hi⟩⟩

def zeros : List Int := [0, 0, 0, 0, 0, 0, 0, 0, 0, 0, 0, 0]
theorem zeros_byt : Byt zeros := by intro z hz; simp [zeros] at hz; omega

/-- What each operation of the anchor's one statement leaves behind. -/
def wGood (base : Nat) (i : Nat) (v : Value) (w : World) : Prop := match i with
  | 0 => Lit8 base zeros v w
  | 1 => v = .int .u32 727758173
  | 2 => Lit8 base zeros v w
  | 3 => v = .int .u32 727758173
  | 6 => Lit8 base [49, 50, 51, 52] v w
  | 7 => Lit8 base [49, 50, 51, 52] v w
  | 8 => v = .int .u32 4131058926
  | 9 => Lit8 base [53, 54, 55, 56, 57] v w
  | 10 => Lit8 base [53, 54, 55, 56, 57] v w
  | 11 => v = .int .u32 3808858755
  | 15 => v = .int .u32 0
  | _ => v = .bool true

theorem wGood_ext (base : Nat) : ∀ j v w w', wGood base j v w → Ext w w' → wGood base j v w' := by
  intro j v w w' h he
  unfold wGood at h ⊢
  split at h <;> first | exact h.ext he | exact h

set_option maxHeartbeats 1600000 in
theorem works_any (w : World) : Calls Try.prog 9 #[] w fun e w' => e = .returned (.bool true) ∧ Below w.heap.size w w' := by
  have hmk := fun W => run_make_row' (P := Try.prog) 22 5 (.int .u8 0) 1 Try.underlying22 Try.infoW rfl .i64 .i64 12 (by omega) (by omega) W
  have ec : ((12 : Nat) : Int) = 12 := rfl
  rw [ec] at hmk
  clear ec
  have hcv := fun W g n c => run_convert_mark (P := Try.prog) W 22 5 g n c Try.underlying22 Try.underlying5
  go_enter Try.func9, Try.ntmps9
  go_wp2
  refine wp_region_any (by kernel_rfl) ?_
  refine wpAny_good (wGood w.heap.size) (fun i => if i = 18 then 0 else i + 1) 19 w (acycB_spec (by kernel_rfl)) (dstB_spec (by kernel_rfl)) ?inj (wGood_ext _) ?step ?fin _ _ ?hb rfl rfl
  case inj =>
    intro i j hi hj h
    simp at hi hj
    split at h <;> split at h <;> omega
  case hb => exact (Below.refl _ _).drew
  case fin =>
    intro a W hb hd hg
    have h0 : a.eval (.tmp 0) = .bool true := hg 18 (by decide)
    rw [eval_tmp] at h0
    clear hg
    go_wp2
    refine bodyPost_ret (v := .bool true) (by simp [results, Try.results9, go_sem, h0]) hd ⟨rfl, hb⟩
  case step =>
    intro a W i o ho hb hdep K hK
    have hsz := hb.size
    match i, ho with
    | 0, ho =>
      have ho' := ho
      simp only [List.getElem?_toArray, List.getElem?_cons_zero, Option.some.injEq] at ho
      subst ho
      refine wpOp_run ho' rfl ?_
      clear hdep ho'
      go_simp
      refine hK _ _ (Ext.alloc _ _) (hb.alloc hb.size _) ⟨W.heap.size, hb.size, by simp, rfl, fun i hi => ?_⟩
      rw [cell_alloc_if, if_pos rfl, made_12 i hi]
      rw [show zeros[i]?.getD 0 = 0 from zero_12 i hi]
    | 1, ho =>
      have ho' := ho
      simp only [List.getElem?_toArray, List.getElem?_cons_zero, List.getElem?_cons_succ, Option.some.injEq] at ho
      subst ho
      have h0 : Lit8 _ zeros (a.eval (.tmp 1)) W := hdep ⟨0, .data⟩ (by simp) rfl
      rw [eval_tmp] at h0
      obtain ⟨g0, e0, r0⟩ := h0.reads
      refine wpOp_run ho' rfl ?_
      clear hdep ho'
      go_simp
      refine (sum_crc _ 12 12 zeros W r0 zeros_byt (by omega)).mono ?_
      rintro e w' ⟨rfl, rfl⟩
      exact hK _ _ (Ext.refl _) hb (by rw [show ext 0 zeros = 727758173 from ext_12]; rfl)
    | 2, ho =>
      have ho' := ho
      simp only [List.getElem?_toArray, List.getElem?_cons_zero, List.getElem?_cons_succ, Option.some.injEq] at ho
      subst ho
      refine wpOp_run ho' rfl ?_
      clear hdep ho'
      go_simp
      refine hK _ _ (Ext.alloc _ _) (hb.alloc hb.size _) ⟨W.heap.size, hb.size, by simp, rfl, fun i hi => ?_⟩
      rw [cell_alloc_if, if_pos rfl, made_12 i hi]
      rw [show zeros[i]?.getD 0 = 0 from zero_12 i hi]
    | 3, ho =>
      have ho' := ho
      simp only [List.getElem?_toArray, List.getElem?_cons_zero, List.getElem?_cons_succ, Option.some.injEq] at ho
      subst ho
      have h0 : Lit8 _ zeros (a.eval (.tmp 3)) W := hdep ⟨2, .data⟩ (by simp) rfl
      rw [eval_tmp] at h0
      obtain ⟨g0, e0, r0⟩ := h0.reads
      refine wpOp_run ho' rfl ?_
      clear hdep ho'
      go_simp
      refine (sum_ref _ 12 12 zeros W r0 zeros_byt (by omega)).mono ?_
      rintro e w' ⟨rfl, rfl⟩
      exact hK _ _ (Ext.refl _) hb (by rw [show ext 0 zeros = 727758173 from ext_12]; rfl)
    | 4, ho =>
      have ho' := ho
      simp only [List.getElem?_toArray, List.getElem?_cons_zero, List.getElem?_cons_succ, Option.some.injEq] at ho
      subst ho
      have h1 : a.eval (.tmp 2) = .int .u32 727758173 := hdep ⟨1, .data⟩ (by simp) rfl
      rw [eval_tmp] at h1
      have h2 : a.eval (.tmp 4) = .int .u32 727758173 := hdep ⟨3, .data⟩ (by simp) rfl
      rw [eval_tmp] at h2
      refine wpOp_run ho' rfl ?_
      clear hdep ho'
      go_simp
      exact hK _ _ (Ext.refl _) hb rfl
    | 5, ho =>
      have ho' := ho
      simp only [List.getElem?_toArray, List.getElem?_cons_zero, List.getElem?_cons_succ, Option.some.injEq] at ho
      subst ho
      have h1 : a.eval (.tmp 5) = .bool true := hdep ⟨4, .data⟩ (by simp) rfl
      rw [eval_tmp] at h1
      refine wpOp_run ho' rfl ?_
      clear hdep ho'
      go_simp
      exact hK _ _ (Ext.refl _) hb rfl
    | 6, ho =>
      have ho' := ho
      simp only [List.getElem?_toArray, List.getElem?_cons_zero, List.getElem?_cons_succ, Option.some.injEq] at ho
      subst ho
      have hg : a.eval (.tmp 6) = .bool true := hdep ⟨5, .guard⟩ (by simp) rfl
      refine wpOp_run ho' (by unfold Region.wanted; simp only []; rw [yielded_of (d := 6) rfl hg]; rfl) ?_
      clear hg
      clear hdep ho'
      go_simp
      refine hK _ _ (Ext.alloc _ _) (hb.alloc hb.size _) ⟨W.heap.size, hb.size, by simp, rfl, fun i hi => ?_⟩
      rw [cell_alloc_if, if_pos rfl]
      match i, hi with
      | 0, _ => rfl
      | 1, _ => rfl
      | 2, _ => rfl
      | 3, _ => rfl
    | 7, ho =>
      have ho' := ho
      simp only [List.getElem?_toArray, List.getElem?_cons_zero, List.getElem?_cons_succ, Option.some.injEq] at ho
      subst ho
      have h0 : Lit8 w.heap.size [49, 50, 51, 52] (a.eval (.tmp 7)) W := hdep ⟨6, .data⟩ (by simp) rfl
      rw [eval_tmp] at h0
      obtain ⟨g, hg1, hg2, e0, hg3⟩ := h0
      have hg : a.eval (.tmp 6) = .bool true := hdep ⟨5, .guard⟩ (by simp) rfl
      refine wpOp_run ho' (by unfold Region.wanted; simp only []; rw [yielded_of (d := 6) rfl hg]; rfl) ?_
      clear hg
      clear hdep ho'
      go_simp
      exact hK _ _ (Ext.mark _ _) (below_mark hb hg1) ⟨g, hg1, by rw [markW_size]; exact hg2, rfl, fun i hi => by rw [markW_cell]; exact hg3 i hi⟩
    | 8, ho =>
      have ho' := ho
      simp only [List.getElem?_toArray, List.getElem?_cons_zero, List.getElem?_cons_succ, Option.some.injEq] at ho
      subst ho
      have h0 : Lit8 _ [49, 50, 51, 52] (a.eval (.tmp 8)) W := hdep ⟨7, .data⟩ (by simp) rfl
      rw [eval_tmp] at h0
      obtain ⟨g0, e0, r0⟩ := h0.reads
      have hg : a.eval (.tmp 6) = .bool true := hdep ⟨5, .guard⟩ (by simp) rfl
      refine wpOp_run ho' (by unfold Region.wanted; simp only []; rw [yielded_of (d := 6) rfl hg]; rfl) ?_
      clear hg
      clear hdep ho'
      go_simp
      refine (sum_crc _ 4 4 _ W r0 (by intro z hz; simp at hz; omega) (by omega)).mono ?_
      rintro e w' ⟨rfl, rfl⟩
      exact hK _ _ (Ext.refl _) hb (by rw [ext_4]; rfl)
    | 9, ho =>
      have ho' := ho
      simp only [List.getElem?_toArray, List.getElem?_cons_zero, List.getElem?_cons_succ, Option.some.injEq] at ho
      subst ho
      have hg : a.eval (.tmp 6) = .bool true := hdep ⟨5, .guard⟩ (by simp) rfl
      refine wpOp_run ho' (by unfold Region.wanted; simp only []; rw [yielded_of (d := 6) rfl hg]; rfl) ?_
      clear hg
      clear hdep ho'
      go_simp
      refine hK _ _ (Ext.alloc _ _) (hb.alloc hb.size _) ⟨W.heap.size, hb.size, by simp, rfl, fun i hi => ?_⟩
      rw [cell_alloc_if, if_pos rfl]
      match i, hi with
      | 0, _ => rfl
      | 1, _ => rfl
      | 2, _ => rfl
      | 3, _ => rfl
      | 4, _ => rfl
    | 10, ho =>
      have ho' := ho
      simp only [List.getElem?_toArray, List.getElem?_cons_zero, List.getElem?_cons_succ, Option.some.injEq] at ho
      subst ho
      have h0 : Lit8 w.heap.size [53, 54, 55, 56, 57] (a.eval (.tmp 10)) W := hdep ⟨9, .data⟩ (by simp) rfl
      rw [eval_tmp] at h0
      obtain ⟨g, hg1, hg2, e0, hg3⟩ := h0
      have hg : a.eval (.tmp 6) = .bool true := hdep ⟨5, .guard⟩ (by simp) rfl
      refine wpOp_run ho' (by unfold Region.wanted; simp only []; rw [yielded_of (d := 6) rfl hg]; rfl) ?_
      clear hg
      clear hdep ho'
      go_simp
      exact hK _ _ (Ext.mark _ _) (below_mark hb hg1) ⟨g, hg1, by rw [markW_size]; exact hg2, rfl, fun i hi => by rw [markW_cell]; exact hg3 i hi⟩
    | 11, ho =>
      have ho' := ho
      simp only [List.getElem?_toArray, List.getElem?_cons_zero, List.getElem?_cons_succ, Option.some.injEq] at ho
      subst ho
      have h0 : Lit8 _ [53, 54, 55, 56, 57] (a.eval (.tmp 11)) W := hdep ⟨10, .data⟩ (by simp) rfl
      rw [eval_tmp] at h0
      obtain ⟨g0, e0, r0⟩ := h0.reads
      have h1 : a.eval (.tmp 9) = .int .u32 4131058926 := hdep ⟨8, .data⟩ (by simp) rfl
      rw [eval_tmp] at h1
      have hg : a.eval (.tmp 6) = .bool true := hdep ⟨5, .guard⟩ (by simp) rfl
      refine wpOp_run ho' (by unfold Region.wanted; simp only []; rw [yielded_of (d := 6) rfl hg]; rfl) ?_
      clear hg
      clear hdep ho'
      go_simp
      refine (extend_crc 4131058926 _ 5 5 _ W (by omega) r0 (by intro z hz; simp at hz; omega) (by omega)).mono ?_
      rintro e w' ⟨rfl, rfl⟩
      exact hK _ _ (Ext.refl _) hb (by rw [ext_9]; rfl)
    | 12, ho =>
      have ho' := ho
      simp only [List.getElem?_toArray, List.getElem?_cons_zero, List.getElem?_cons_succ, Option.some.injEq] at ho
      subst ho
      have h1 : a.eval (.tmp 12) = .int .u32 3808858755 := hdep ⟨11, .data⟩ (by simp) rfl
      rw [eval_tmp] at h1
      have hg : a.eval (.tmp 6) = .bool true := hdep ⟨5, .guard⟩ (by simp) rfl
      refine wpOp_run ho' (by unfold Region.wanted; simp only []; rw [yielded_of (d := 6) rfl hg]; rfl) ?_
      clear hg
      clear hdep ho'
      go_simp
      exact hK _ _ (Ext.refl _) hb rfl
    | 13, ho =>
      have ho' := ho
      simp only [List.getElem?_toArray, List.getElem?_cons_zero, List.getElem?_cons_succ, Option.some.injEq] at ho
      subst ho
      have h1 : a.eval (.tmp 6) = .bool true := hdep ⟨5, .data⟩ (by simp) rfl
      rw [eval_tmp] at h1
      have h2 : a.eval (.tmp 13) = .bool true := hdep ⟨12, .data⟩ (by simp) rfl
      rw [eval_tmp] at h2
      refine wpOp_run ho' rfl ?_
      clear hdep ho'
      go_simp
      exact hK _ _ (Ext.refl _) hb rfl
    | 14, ho =>
      have ho' := ho
      simp only [List.getElem?_toArray, List.getElem?_cons_zero, List.getElem?_cons_succ, Option.some.injEq] at ho
      subst ho
      have h1 : a.eval (.tmp 14) = .bool true := hdep ⟨13, .data⟩ (by simp) rfl
      rw [eval_tmp] at h1
      refine wpOp_run ho' rfl ?_
      clear hdep ho'
      go_simp
      exact hK _ _ (Ext.refl _) hb rfl
    | 15, ho =>
      have ho' := ho
      simp only [List.getElem?_toArray, List.getElem?_cons_zero, List.getElem?_cons_succ, Option.some.injEq] at ho
      subst ho
      have hg : a.eval (.tmp 15) = .bool true := hdep ⟨14, .guard⟩ (by simp) rfl
      refine wpOp_run ho' (by unfold Region.wanted; simp only []; rw [yielded_of (d := 15) rfl hg]; rfl) ?_
      clear hg
      clear hdep ho'
      go_simp
      refine (sum_crc none 0 0 [] W (Reads.zero _ _) Byt.nil (by omega)).mono ?_
      rintro e w' ⟨rfl, rfl⟩
      exact hK _ _ (Ext.refl _) hb (by rw [ext_nil]; rfl)
    | 16, ho =>
      have ho' := ho
      simp only [List.getElem?_toArray, List.getElem?_cons_zero, List.getElem?_cons_succ, Option.some.injEq] at ho
      subst ho
      have h1 : a.eval (.tmp 16) = .int .u32 0 := hdep ⟨15, .data⟩ (by simp) rfl
      rw [eval_tmp] at h1
      have hg : a.eval (.tmp 15) = .bool true := hdep ⟨14, .guard⟩ (by simp) rfl
      refine wpOp_run ho' (by unfold Region.wanted; simp only []; rw [yielded_of (d := 15) rfl hg]; rfl) ?_
      clear hg
      clear hdep ho'
      go_simp
      exact hK _ _ (Ext.refl _) hb rfl
    | 17, ho =>
      have ho' := ho
      simp only [List.getElem?_toArray, List.getElem?_cons_zero, List.getElem?_cons_succ, Option.some.injEq] at ho
      subst ho
      have h1 : a.eval (.tmp 15) = .bool true := hdep ⟨14, .data⟩ (by simp) rfl
      rw [eval_tmp] at h1
      have h2 : a.eval (.tmp 17) = .bool true := hdep ⟨16, .data⟩ (by simp) rfl
      rw [eval_tmp] at h2
      refine wpOp_run ho' rfl ?_
      clear hdep ho'
      go_simp
      exact hK _ _ (Ext.refl _) hb rfl
    | 18, ho =>
      have ho' := ho
      simp only [List.getElem?_toArray, List.getElem?_cons_zero, List.getElem?_cons_succ, Option.some.injEq] at ho
      subst ho
      have h1 : a.eval (.tmp 18) = .bool true := hdep ⟨17, .data⟩ (by simp) rfl
      rw [eval_tmp] at h1
      refine wpOp_run ho' rfl ?_
      clear hdep ho'
      go_simp
      exact hK _ _ (Ext.refl _) hb rfl
    | i + 19, ho => simp at ho

theorem worksOk : WorksOk := works_any
end Go.Proofs.Ytinkelehdmlmfaa
