/-
  Stage 9: GetCum and GetTime, the program's and the reference's. Written by gengets.py.
-/
import Derived.Test.YtlihcckgnnnekaaBdPuts
import Derived.Test.YtlihcckgnnnekaaBdChk
namespace Go.Proofs.Ytlihcckgnnnekaa
open Go.RowKit
set_option linter.unusedVariables false
set_option linter.unusedSimpArgs false
set_option linter.unnecessarySimpa false

/-- What the operations of the drawn region leave behind. -/
def GCum (w : World) (k f x0 : Int) (p : Option Addr) (n c : Nat) (bb : Bool) (i : Nat) (v : Value) (W : World) : Prop := match i with | 0 => v = .agg #[.int .u8 k, .int .u8 f, .slice p n c] | 1 => v = .pointer (some ⟨w.heap.size, 2, none⟩) | 2 => v = .slice p n c | 3 => v = .int .u64 x0 | 4 => v = .int .u32 x0 | 5 => v = .tuple #[.int .u32 (if bb then x0 else 0), .int .i64 (if bb then 0 else 7)] | 6 => v = .int .u32 (if bb then x0 else 0) | 7 => v = .int .i64 (if bb then 0 else 7) | 8 => v = .int .u32 (if bb then x0 else 0) | 9 => v = .int .i64 (if bb then 0 else 7) | _ => True
theorem GCum_mono {w : World} {k f x0 : Int} {p : Option Addr} {n c : Nat} {bb : Bool} {W W' : World} (hb : Below W.heap.size W W') (j : Nat) (x : Value) (h : GCum w k f x0 p n c bb j x W) : GCum w k f x0 p n c bb j x W' := by
  unfold GCum at h ⊢
  split at h <;> try exact h

set_option maxRecDepth 100000 in
set_option maxHeartbeats 1600000 in
theorem pgetCum' (k f : Int) (p : Option Addr) (n c : Nat) (zs : List Int) (w : World) (hr : Reads w p n zs) (hz : Byt zs) (hc : n ≤ c) (hn : n ≤ 281474976) (x0 : Int) (hxx0 : natAt zs 0 4 = x0) :
    Calls Try.prog 41 #[.agg #[.int .u8 k, .int .u8 f, .slice p n c]] w fun e w' => Chose (eqC k f zs 7 0 (enc x0 4)) (.int .u32 x0) (.int .u32 0) e ∧ Below w.heap.size w w' := by
  have HNx0 := Lib.hid (show ∀ W, Reads W p n zs → Calls Try.prog 50 #[.slice p n c, .int .i64 0, .int .i64 4] W fun e w' => e = .returned (.int .u64 x0) ∧ W = w' from fun W h => hxx0 ▸ num_any p n c 0 4 zs W h hz (by omega) (by omega) rfl)
  obtain ⟨lox0, hix0⟩ : 0 ≤ x0 ∧ x0 < 4294967296 := hxx0 ▸ natAt4 hz 0
  obtain ⟨wE, hwE⟩ : ∃ wE, w.alloc (.cells #[.int .u8 k, .int .u8 f, .slice p n c] 28) = wE := ⟨_, rfl⟩
  have hbE : Below w.heap.size w wE := by rw [← hwE]; exact chunkBelow w k f _
  have hsE : wE.heap.size = w.heap.size + 1 := by rw [← hwE]; simp
  have hcE : Arr wE w.heap.size 28 [.int .u8 k, .int .u8 f, .slice p n c] := by rw [← hwE]; exact chunkBox w k f _
  have HRW := Lib.hid (show ∀ W, Below wE.heap.size wE W → Reads W p n zs from fun W h => hr.below (hbE.trans (h.mono hbE.size)))
  obtain ⟨bb, hbb⟩ : ∃ bb, bb = eqC k f zs 7 0 (enc x0 4) := ⟨_, rfl⟩
  rw [← hbb]
  have HBB := Lib.hid hbb
  have HC := Lib.hid hcE
  have HBE := Lib.hid hbE
  clear hbb hcE hbE hr hxx0
  go_enter Try.func41, Try.ntmps41
  go_wp2_with fail
  refine wp_region_any (by kernel_rfl) ?_
  refine Vals.wpAny_goodW (GCum w k f x0 p n c bb) (fun _ => (fun W => Below wE.heap.size wE W)) [some 4, some 5, some 6, some 7, some 8, some 9, some 10, some 11, some 2, some 3] 12 _ _ rfl (by kernel_rfl) (by kernel_rfl) (by decide) ?step ?fin (Below.refl _ _).drew
  case step =>
    intro i o d ho hd listed a W hls hun hcl hJ hdf hdep hfr K hK
    match i, ho, hd with
    | 0, ho, hd =>
      have ho' := ho
      simp only [List.getElem?_toArray, List.getElem?_cons_zero, Option.some.injEq] at ho hd
      subst ho hd
      have r1 : a.eval (.tmp 1) = .pointer (some ⟨w.heap.size, 0, none⟩) := hfr 1 (by decide)
      rw [Vals.eval_tmp] at r1
      have c0 := (HC.out.keep hJ).cell (i := 0) rfl
      have c1 := (HC.out.keep hJ).cell (i := 1) rfl
      have c2 := (HC.out.keep hJ).cell (i := 2) rfl
      refine Vals.wpOp_run ho' rfl ?_
      clear hdep hfr ho' hdf hcl
      go_simp
      exact hK _ _ (fun _ _ h => h) hJ (fun _ => rfl)
    | 1, ho, hd =>
      have ho' := ho
      simp only [List.getElem?_toArray, List.getElem?_cons_zero, List.getElem?_cons_succ, Option.some.injEq] at ho hd
      subst ho hd
      have r1 : a.eval (.tmp 1) = .pointer (some ⟨w.heap.size, 0, none⟩) := hfr 1 (by decide)
      rw [Vals.eval_tmp] at r1
      refine Vals.wpOp_run ho' rfl ?_
      clear hdep hfr ho' hdf hcl
      go_simp
      exact hK _ _ (fun _ _ h => h) hJ (fun _ => rfl)
    | 2, ho, hd =>
      have ho' := ho
      simp only [List.getElem?_toArray, List.getElem?_cons_zero, List.getElem?_cons_succ, Option.some.injEq] at ho hd
      subst ho hd
      have r5 : a.eval (.tmp 5) = .pointer (some ⟨w.heap.size, 2, none⟩) := (hdep ⟨1, .data⟩ (by simp) rfl).2 5 rfl
      rw [Vals.eval_tmp] at r5
      have c0 := (HC.out.keep hJ).cell (i := 2) rfl
      refine Vals.wpOp_run ho' rfl ?_
      clear hdep hfr ho' hdf hcl
      go_simp
      exact hK _ _ (fun _ _ h => h) hJ (fun _ => rfl)
    | 3, ho, hd =>
      have ho' := ho
      simp only [List.getElem?_toArray, List.getElem?_cons_zero, List.getElem?_cons_succ, Option.some.injEq] at ho hd
      subst ho hd
      have r6 : a.eval (.tmp 6) = .slice p n c := (hdep ⟨2, .data⟩ (by simp) rfl).2 6 rfl
      rw [Vals.eval_tmp] at r6
      refine Vals.wpOp_run ho' rfl ?_
      clear hdep hfr ho' hdf hcl
      go_simp
      refine (HNx0.out W (HRW.out W hJ)).mono ?_
      rintro e w' ⟨rfl, rfl⟩
      exact hK _ _ (fun _ _ h => h) hJ (fun _ => rfl)
    | 4, ho, hd =>
      have ho' := ho
      simp only [List.getElem?_toArray, List.getElem?_cons_zero, List.getElem?_cons_succ, Option.some.injEq] at ho hd
      subst ho hd
      have r7 : a.eval (.tmp 7) = .int .u64 x0 := (hdep ⟨3, .data⟩ (by simp) rfl).2 7 rfl
      rw [Vals.eval_tmp] at r7
      refine Vals.wpOp_run ho' rfl ?_
      clear hdep hfr ho' hdf hcl
      go_simp
      exact hK _ _ (fun _ _ h => h) hJ (fun _ => (by first | rfl | exact congrArg (Value.int _) (Int.emod_eq_of_lt (by assumption) (by assumption))))
    | 5, ho, hd =>
      have ho' := ho
      simp only [List.getElem?_toArray, List.getElem?_cons_zero, List.getElem?_cons_succ, Option.some.injEq] at ho hd
      subst ho hd
      have r4 : a.eval (.tmp 4) = .agg #[.int .u8 k, .int .u8 f, .slice p n c] := (hdep ⟨0, .data⟩ (by simp) rfl).2 4 rfl
      rw [Vals.eval_tmp] at r4
      have r8 : a.eval (.tmp 8) = .int .u32 x0 := (hdep ⟨4, .data⟩ (by simp) rfl).2 8 rfl
      rw [Vals.eval_tmp] at r8
      refine Vals.wpOp_run ho' rfl ?_
      clear hdep hfr ho' hdf hcl
      go_simp
      refine (checkedCum k f 7 0 p n c zs (enc x0 4) true x0 W (HRW.out W hJ) hz (enc_byt _ _) (by omega) (by simp) (fun W2 _ => pputCum x0 W2 lox0 hix0)).mono ?_
      rintro e w' ⟨hch, hb3⟩
      rw [Bool.true_and, ← HBB.out] at hch
      rcases hch with ⟨h1, rfl⟩ | ⟨h1, rfl⟩
      · exact hK _ _ (GCum_mono hb3) (hJ.trans (hb3.mono hJ.size)) (fun _ => by rw [h1]; rfl)
      · exact hK _ _ (GCum_mono hb3) (hJ.trans (hb3.mono hJ.size)) (fun _ => by rw [h1]; rfl)
    | 6, ho, hd =>
      have ho' := ho
      simp only [List.getElem?_toArray, List.getElem?_cons_zero, List.getElem?_cons_succ, Option.some.injEq] at ho hd
      subst ho hd
      have r9 : a.eval (.tmp 9) = .tuple #[.int .u32 (if bb then x0 else 0), .int .i64 (if bb then 0 else 7)] := (hdep ⟨5, .data⟩ (by simp) rfl).2 9 rfl
      rw [Vals.eval_tmp] at r9
      refine Vals.wpOp_run ho' rfl ?_
      clear hdep hfr ho' hdf hcl
      go_simp
      exact hK _ _ (fun _ _ h => h) hJ (fun _ => rfl)
    | 7, ho, hd =>
      have ho' := ho
      simp only [List.getElem?_toArray, List.getElem?_cons_zero, List.getElem?_cons_succ, Option.some.injEq] at ho hd
      subst ho hd
      have r9 : a.eval (.tmp 9) = .tuple #[.int .u32 (if bb then x0 else 0), .int .i64 (if bb then 0 else 7)] := (hdep ⟨5, .data⟩ (by simp) rfl).2 9 rfl
      rw [Vals.eval_tmp] at r9
      refine Vals.wpOp_run ho' rfl ?_
      clear hdep hfr ho' hdf hcl
      go_simp
      exact hK _ _ (fun _ _ h => h) hJ (fun _ => rfl)
    | 8, ho, hd =>
      have ho' := ho
      simp only [List.getElem?_toArray, List.getElem?_cons_zero, List.getElem?_cons_succ, Option.some.injEq] at ho hd
      subst ho hd
      have r10 : a.eval (.tmp 10) = .int .u32 (if bb then x0 else 0) := (hdep ⟨6, .data⟩ (by simp) rfl).2 10 rfl
      rw [Vals.eval_tmp] at r10
      refine Vals.wpOp_run ho' rfl ?_
      clear hdep hfr ho' hdf hcl
      go_simp
      exact hK _ _ (fun _ _ h => h) hJ (fun _ => rfl)
    | 9, ho, hd =>
      have ho' := ho
      simp only [List.getElem?_toArray, List.getElem?_cons_zero, List.getElem?_cons_succ, Option.some.injEq] at ho hd
      subst ho hd
      have r11 : a.eval (.tmp 11) = .int .i64 (if bb then 0 else 7) := (hdep ⟨7, .data⟩ (by simp) rfl).2 11 rfl
      rw [Vals.eval_tmp] at r11
      refine Vals.wpOp_run ho' rfl ?_
      clear hdep hfr ho' hdf hcl
      go_simp
      exact hK _ _ (fun _ _ h => h) hJ (fun _ => rfl)
    | i + 10, ho, hd => simp at ho
  case fin =>
    intro listed W fq hall hJ hG
    have q0 : fq 4 = .agg #[.int .u8 k, .int .u8 f, .slice p n c] := hG 0 4 rfl
    have q1 : fq 5 = .pointer (some ⟨w.heap.size, 2, none⟩) := hG 1 5 rfl
    have q2 : fq 6 = .slice p n c := hG 2 6 rfl
    have q3 : fq 7 = .int .u64 x0 := hG 3 7 rfl
    have q4 : fq 8 = .int .u32 x0 := hG 4 8 rfl
    have q5 : fq 9 = .tuple #[.int .u32 (if bb then x0 else 0), .int .i64 (if bb then 0 else 7)] := hG 5 9 rfl
    have q6 : fq 10 = .int .u32 (if bb then x0 else 0) := hG 6 10 rfl
    have q7 : fq 11 = .int .i64 (if bb then 0 else 7) := hG 7 11 rfl
    have q8 : fq 2 = .int .u32 (if bb then x0 else 0) := hG 8 2 rfl
    have q9 : fq 3 = .int .i64 (if bb then 0 else 7) := hG 9 3 rfl
    clear hG hall
    simp only [Vals.puts, Vals.pairs, List.filterMap_cons, List.filterMap_nil, id, List.map_cons, List.map_nil, List.foldl_cons, List.foldl_nil, q0, q1, q2, q3, q4, q5, q6, q7, q8, q9]
    clear q0 q1 q2 q3 q4 q5 q6 q7 q8 q9
    go_frame
    have HJ := Lib.hid (HBE.out.trans (hJ.mono HBE.out.size))
    clear hJ HRW HC HBE
    cases bb
    · go_wp2
      go_ret2
      exact ⟨.inr ⟨rfl, rfl⟩, HJ.out⟩
    · go_wp2
      go_ret2
      exact ⟨.inl ⟨rfl, rfl⟩, HJ.out⟩

/-- What the operations of the drawn region leave behind. -/
def GCumR (w : World) (k f x0 : Int) (p : Option Addr) (n c : Nat) (bb : Bool) (i : Nat) (v : Value) (W : World) : Prop := match i with | 0 => v = .int .u32 x0 | 1 => ∃ a1 c1, v = .agg #[.int .u8 7, .int .u8 0, .slice a1 (enc x0 4).length c1] ∧ Reads W a1 (enc x0 4).length (enc x0 4) | 2 => v = .agg #[.int .u8 k, .int .u8 f, .slice p n c] | 3 => v = .bool bb | 4 => v = .bool (!bb) | _ => True
theorem GCumR_mono {w : World} {k f x0 : Int} {p : Option Addr} {n c : Nat} {bb : Bool} {W W' : World} (hb : Below W.heap.size W W') (j : Nat) (x : Value) (h : GCumR w k f x0 p n c bb j x W) : GCumR w k f x0 p n c bb j x W' := by
  unfold GCumR at h ⊢
  split at h <;> try exact h
  · obtain ⟨a1, c1, e0, h0_0⟩ := h
    exact ⟨a1, c1, e0, h0_0.below hb⟩

set_option maxRecDepth 100000 in
set_option maxHeartbeats 1600000 in
theorem rgetCum' (k f : Int) (p : Option Addr) (n c : Nat) (zs : List Int) (w : World) (hr : Reads w p n zs) (hz : Byt zs) (hc : n ≤ c) (hn : n ≤ 281474976) (x0 : Int) (hxx0 : natAt zs 0 4 = x0) :
    Calls Try.prog 42 #[.agg #[.int .u8 k, .int .u8 f, .slice p n c]] w fun e w' => Chose (eqC 7 0 (enc x0 4) k f zs) (.int .u32 x0) (.int .u32 0) e ∧ Below w.heap.size w w' := by
  have HNx0 := Lib.hid (show ∀ W, Reads W p n zs → Calls Try.prog 53 #[.slice p n c, .int .i64 0, .int .i64 4] W fun e w' => e = .returned (.int .u64 x0) ∧ Below W.heap.size W w' from fun W h => hxx0 ▸ numR_any p n c 0 4 zs W h hz hc (by omega) (by omega) rfl)
  obtain ⟨lox0, hix0⟩ : 0 ≤ x0 ∧ x0 < 4294967296 := hxx0 ▸ natAt4 hz 0
  obtain ⟨wE, hwE⟩ : ∃ wE, w.alloc (.cells #[.int .u8 k, .int .u8 f, .slice p n c] 28) = wE := ⟨_, rfl⟩
  have hbE : Below w.heap.size w wE := by rw [← hwE]; exact chunkBelow w k f _
  have hsE : wE.heap.size = w.heap.size + 1 := by rw [← hwE]; simp
  have hcE : Arr wE w.heap.size 28 [.int .u8 k, .int .u8 f, .slice p n c] := by rw [← hwE]; exact chunkBox w k f _
  obtain ⟨bb, hbb⟩ : ∃ bb, bb = eqC 7 0 (enc x0 4) k f zs := ⟨_, rfl⟩
  rw [← hbb]
  have HBB := Lib.hid hbb
  have HC0 := Lib.hid hcE
  have HB0 := Lib.hid hbE
  have HR0 := Lib.hid hr
  have c2 := hcE.cell (i := 2) rfl
  clear hbb hcE hbE hr hxx0
  go_enter Try.func42, Try.ntmps42
  go_wp2_with fail
  refine (HNx0.out _ (HR0.out.below HB0.out)).mono ?_
  rintro e w1 ⟨rfl, hb1⟩
  have hbE := HB0.out.trans (hb1.mono HB0.out.size)
  have HC := Lib.hid (HC0.out.keep hb1)
  have HBE := Lib.hid hbE
  have HRW := Lib.hid (show ∀ W, Below w1.heap.size w1 W → Reads W p n zs from fun W h => HR0.out.below (hbE.trans (h.mono hbE.size)))
  clear hb1 hbE HC0 HB0 HR0 HNx0 c2
  go_wp2_with fail
  refine wp_region_any (by kernel_rfl) ?_
  refine Vals.wpAny_goodW (GCumR w k f x0 p n c bb) (fun _ => (fun W => Below w1.heap.size w1 W)) [some 9, some 10, some 11, some 12, some 13] 15 _ _ rfl (by kernel_rfl) (by kernel_rfl) (by decide) ?step ?fin (Below.refl _ _).drew
  case step =>
    intro i o d ho hd listed a W hls hun hcl hJ hdf hdep hfr K hK
    match i, ho, hd with
    | 0, ho, hd =>
      have ho' := ho
      simp only [List.getElem?_toArray, List.getElem?_cons_zero, Option.some.injEq] at ho hd
      subst ho hd
      have r4 : a.eval (.tmp 4) = .int .u32 x0 := hfr 4 (by decide)
      rw [Vals.eval_tmp] at r4
      refine Vals.wpOp_run ho' rfl ?_
      clear hdep hfr ho' hdf hcl
      go_simp
      exact hK _ _ (fun _ _ h => h) hJ (fun _ => rfl)
    | 1, ho, hd =>
      have ho' := ho
      simp only [List.getElem?_toArray, List.getElem?_cons_zero, List.getElem?_cons_succ, Option.some.injEq] at ho hd
      subst ho hd
      have r9 : a.eval (.tmp 9) = .int .u32 x0 := (hdep ⟨0, .data⟩ (by simp) rfl).2 9 rfl
      rw [Vals.eval_tmp] at r9
      refine Vals.wpOp_run ho' rfl ?_
      clear hdep hfr ho' hdf hcl
      go_simp
      refine (rputCum x0 W lox0 hix0).mono ?_
      rintro e w' ⟨a1, c1, rfl, hb3, hr3⟩
      exact hK _ _ (GCumR_mono hb3) (hJ.trans (hb3.mono hJ.size)) (fun _ => ⟨_, _, rfl, hr3.reads⟩)
    | 2, ho, hd =>
      have ho' := ho
      simp only [List.getElem?_toArray, List.getElem?_cons_zero, List.getElem?_cons_succ, Option.some.injEq] at ho hd
      subst ho hd
      have r1 : a.eval (.tmp 1) = .pointer (some ⟨w.heap.size, 0, none⟩) := hfr 1 (by decide)
      rw [Vals.eval_tmp] at r1
      have c0 := (HC.out.keep hJ).cell (i := 0) rfl
      have c1 := (HC.out.keep hJ).cell (i := 1) rfl
      have c2 := (HC.out.keep hJ).cell (i := 2) rfl
      refine Vals.wpOp_run ho' rfl ?_
      clear hdep hfr ho' hdf hcl
      go_simp
      exact hK _ _ (fun _ _ h => h) hJ (fun _ => rfl)
    | 3, ho, hd =>
      have ho' := ho
      simp only [List.getElem?_toArray, List.getElem?_cons_zero, List.getElem?_cons_succ, Option.some.injEq] at ho hd
      subst ho hd
      have g10 : ∃ a1_10 c1_10, a.eval (.tmp 10) = .agg #[.int .u8 7, .int .u8 0, .slice a1_10 (enc x0 4).length c1_10] ∧ Reads W a1_10 (enc x0 4).length (enc x0 4) := (hdep ⟨1, .data⟩ (by simp) rfl).2 10 rfl
      rw [Vals.eval_tmp] at g10
      obtain ⟨a1_10, c1_10, r10, h10_0⟩ := g10
      have r11 : a.eval (.tmp 11) = .agg #[.int .u8 k, .int .u8 f, .slice p n c] := (hdep ⟨2, .data⟩ (by simp) rfl).2 11 rfl
      rw [Vals.eval_tmp] at r11
      refine Vals.wpOp_run ho' rfl ?_
      clear hdep hfr ho' hdf hcl
      go_simp
      refine (rsame_any 7 0 k f a1_10 p _ n _ c (enc x0 4) zs W h10_0 (HRW.out W hJ) (enc_byt _ _) hz (by simp) (by omega)).mono ?_
      rintro e w' ⟨rfl, hb3⟩
      exact hK _ _ (GCumR_mono hb3) (hJ.trans (hb3.mono hJ.size)) (fun _ => by show Value.bool _ = Value.bool _; first | rfl | rw [HBB.out])
    | 4, ho, hd =>
      have ho' := ho
      simp only [List.getElem?_toArray, List.getElem?_cons_zero, List.getElem?_cons_succ, Option.some.injEq] at ho hd
      subst ho hd
      have r12 : a.eval (.tmp 12) = .bool bb := (hdep ⟨3, .data⟩ (by simp) rfl).2 12 rfl
      rw [Vals.eval_tmp] at r12
      refine Vals.wpOp_run ho' rfl ?_
      clear hdep hfr ho' hdf hcl
      go_simp
      exact hK _ _ (fun _ _ h => h) hJ (fun _ => rfl)
    | i + 5, ho, hd => simp at ho
  case fin =>
    intro listed W fq hall hJ hG
    have q0 : fq 9 = .int .u32 x0 := hG 0 9 rfl
    obtain ⟨a1_10, c1_10, q1, hq10_0⟩ : ∃ a1_10 c1_10, fq 10 = .agg #[.int .u8 7, .int .u8 0, .slice a1_10 (enc x0 4).length c1_10] ∧ Reads W a1_10 (enc x0 4).length (enc x0 4) := hG 1 10 rfl
    have q2 : fq 11 = .agg #[.int .u8 k, .int .u8 f, .slice p n c] := hG 2 11 rfl
    have q3 : fq 12 = .bool bb := hG 3 12 rfl
    have q4 : fq 13 = .bool (!bb) := hG 4 13 rfl
    clear hG hall
    simp only [Vals.puts, Vals.pairs, List.filterMap_cons, List.filterMap_nil, id, List.map_cons, List.map_nil, List.foldl_cons, List.foldl_nil, q0, q1, q2, q3, q4]
    clear q0 q1 q2 q3 q4
    go_frame
    have HJ := Lib.hid (HBE.out.trans (hJ.mono HBE.out.size))
    clear hJ HRW HC HBE
    cases bb
    · go_wp2
      go_ret2
      exact ⟨.inr ⟨rfl, rfl⟩, HJ.out⟩
    · go_wp2
      go_ret2
      exact ⟨.inl ⟨rfl, rfl⟩, HJ.out⟩

set_option maxRecDepth 100000 in
set_option maxHeartbeats 1600000 in
theorem pclTime (k x : Int) (B : Nat) (w : World) (hB : B < w.heap.size) (hc : w.cell? ⟨B, 0, none⟩ = some (.int .u8 k)) : Calls Try.prog 69 #[.int .i64 x, .pointer (some ⟨B, 0, none⟩)] w fun e w' => Puts w k 0 (enc 1 2 ++ enc 12 2 ++ enc x 8) e w' := by
  obtain ⟨w0, hw0⟩ : ∃ w0, w.alloc (.cells #[.int .u8 0, .int .u8 0, .slice none 0 0] 28) = w0 := ⟨_, rfl⟩
  have hb0 : Below w.heap.size w w0 := by rw [← hw0]; exact chunkBelow w 0 0 _
  have hs0 : w0.heap.size = w.heap.size + 1 := by rw [← hw0]; simp
  have hA0 : Arr w0 w.heap.size 28 [.int .u8 0, .int .u8 0, .slice none 0 0] := by rw [← hw0]; exact chunkBox w 0 0 _
  have hc0 : w0.cell? ⟨B, 0, none⟩ = some (.int .u8 k) := (hb0.cell (p := ⟨B, 0, none⟩) hB).trans hc
  have HP := Lib.hid (pputTime k x w0)
  have H0 := Lib.hid (And.intro hb0 (And.intro hs0 hA0))
  clear hb0 hs0 hA0 hc hB
  go_enter Try.func69, Try.ntmps69
  go_wp2_with fail
  refine HP.out.mono ?_
  rintro e w2 ⟨a', c', rfl, hb2, hr2⟩
  have hA2 := H0.out.2.2.keep hb2
  have fr0 := hA2.free 0
  have fr1 := hA2.free 1
  have fr2 := hA2.free 2
  have y0 := hA2.cell (i := 0) rfl
  have y1 := hA2.cell (i := 1) rfl
  have y2 := hA2.cell (i := 2) rfl
  generalize (enc 1 2 ++ enc 12 2 ++ enc x 8).length = len at hr2 ⊢
  obtain ⟨W3, hW3⟩ : ∃ W3, ((w2.setCell ⟨w.heap.size, 0, none⟩ (.int .u8 k)).setCell ⟨w.heap.size, 1, none⟩ (.int .u8 0)).setCell ⟨w.heap.size, 2, none⟩ (.slice a' len c') = W3 := ⟨_, rfl⟩
  have hE := puts_end (H0.out.1.trans (hb2.mono H0.out.1.size)) (Nat.le_refl _) (by have := H0.out.2.1; omega) hA2 hr2 hW3
  have z0 := hE.2.2.cell (i := 0) rfl
  have z1 := hE.2.2.cell (i := 1) rfl
  have z2 := hE.2.2.cell (i := 2) rfl
  have HE := Lib.hid (And.intro hE.1 (And.intro hE.2.1 hr2.len))
  clear hE hA2 hr2 hb2 HP H0
  go_wp2
  have hl := HE.out.2.2
  exact bodyPost_ret (by simp [results, Try.results69, go_sem, z0, z1, z2] <;> rfl) rfl ⟨a', c', by rw [hl], HE.out.1, HE.out.2.1⟩

set_option maxRecDepth 100000 in
set_option maxHeartbeats 1600000 in
theorem pgetTime4 (f : Int) (p : Option Addr) (n c : Nat) (zs : List Int) (w : World) (hr : Reads w p n zs) (hz : Byt zs) (hc : n ≤ c) (hn : n ≤ 281474976)  (x0 : Int) (hxx0 : natAt zs 4 8 = x0) :
    Calls Try.prog 39 #[.agg #[.int .u8 4, .int .u8 f, .slice p n c]] w fun e w' => Chose (eqC 4 f zs 4 0 (enc 1 2 ++ enc 12 2 ++ enc (wrap64 x0) 8)) (.int .i64 (wrap64 x0)) (.int .i64 0) e ∧ Below w.heap.size w w' := by
  have HNx0 := Lib.hid (show ∀ W, Reads W p n zs → Calls Try.prog 50 #[.slice p n c, .int .i64 4, .int .i64 8] W fun e w' => e = .returned (.int .u64 x0) ∧ W = w' from fun W h => hxx0 ▸ num_any p n c 4 8 zs W h hz (by omega) (by omega) rfl)
  obtain ⟨lox0, hix0⟩ : 0 ≤ x0 ∧ x0 < 18446744073709551616 := hxx0 ▸ natAt8 hz 4
  obtain ⟨wE, hwE⟩ : ∃ wE, w.alloc (.cells #[.int .u8 4, .int .u8 f, .slice p n c] 28) = wE := ⟨_, rfl⟩
  have hbE : Below w.heap.size w wE := by rw [← hwE]; exact chunkBelow w 4 f _
  have hsE : wE.heap.size = w.heap.size + 1 := by rw [← hwE]; simp
  have hcE : Arr wE w.heap.size 28 [.int .u8 4, .int .u8 f, .slice p n c] := by rw [← hwE]; exact chunkBox w 4 f _
  have c0 := hcE.cell (i := 0) rfl
  have c1 := hcE.cell (i := 1) rfl
  have c2 := hcE.cell (i := 2) rfl
  have hchk := checkedTime ⟨w.heap.size, 0, none⟩ 4 f 4 0 p n c zs (enc 1 2 ++ enc 12 2 ++ enc (wrap64 x0) 8) true (wrap64 x0) wE (hr.below hbE) hz (((enc_byt _ _).append (enc_byt _ _)).append (enc_byt _ _)) (by omega) (by simp) (fun W h => pclTime 4 _ w.heap.size W (by have := h.size; omega) ((h.cell (p := ⟨w.heap.size, 0, none⟩) (by show w.heap.size < wE.heap.size; omega)).trans c0))
  have hmf : ∀ (fn : Fn) (first cap : Array Value) (w : World), (Instr.makeFunc fn first cap).run Try.prog w = .ok (.func fn first cap) w := fun _ _ _ _ => rfl
  have HCK := Lib.hid hchk
  have HRE := Lib.hid (hr.below hbE)
  have HBE := Lib.hid hbE
  clear hchk hbE hcE hr hxx0
  go_enter Try.func39, Try.ntmps39
  go_wp2_with fail
  refine (HNx0.out _ HRE.out).mono ?_
  rintro e w1 ⟨rfl, rfl⟩
  go_wp2_with fail
  refine HCK.out.mono ?_
  rintro e w2 ⟨hch, hb2⟩
  have HB2 := Lib.hid (HBE.out.trans (hb2.mono HBE.out.size))
  clear hb2 HCK HBE
  have HCH := Lib.hid hch
  rcases hch with ⟨h1, rfl⟩ | ⟨h1, rfl⟩
  · have H1 := Lib.hid h1
    clear h1
    go_wp2
    go_ret2
    exact ⟨.inl ⟨by have h := H1.out; simpa using h, rfl⟩, HB2.out⟩
  · have H1 := Lib.hid h1
    clear h1
    go_wp2
    go_ret2
    exact ⟨.inr ⟨by have h := H1.out; simpa using h, rfl⟩, HB2.out⟩

set_option maxRecDepth 100000 in
set_option maxHeartbeats 1600000 in
theorem pgetTime5 (f : Int) (p : Option Addr) (n c : Nat) (zs : List Int) (w : World) (hr : Reads w p n zs) (hz : Byt zs) (hc : n ≤ c) (hn : n ≤ 281474976)  (x0 : Int) (hxx0 : natAt zs 4 8 = x0) :
    Calls Try.prog 39 #[.agg #[.int .u8 5, .int .u8 f, .slice p n c]] w fun e w' => Chose (eqC 5 f zs 5 0 (enc 1 2 ++ enc 12 2 ++ enc (wrap64 x0) 8)) (.int .i64 (wrap64 x0)) (.int .i64 0) e ∧ Below w.heap.size w w' := by
  have HNx0 := Lib.hid (show ∀ W, Reads W p n zs → Calls Try.prog 50 #[.slice p n c, .int .i64 4, .int .i64 8] W fun e w' => e = .returned (.int .u64 x0) ∧ W = w' from fun W h => hxx0 ▸ num_any p n c 4 8 zs W h hz (by omega) (by omega) rfl)
  obtain ⟨lox0, hix0⟩ : 0 ≤ x0 ∧ x0 < 18446744073709551616 := hxx0 ▸ natAt8 hz 4
  obtain ⟨wE, hwE⟩ : ∃ wE, w.alloc (.cells #[.int .u8 5, .int .u8 f, .slice p n c] 28) = wE := ⟨_, rfl⟩
  have hbE : Below w.heap.size w wE := by rw [← hwE]; exact chunkBelow w 5 f _
  have hsE : wE.heap.size = w.heap.size + 1 := by rw [← hwE]; simp
  have hcE : Arr wE w.heap.size 28 [.int .u8 5, .int .u8 f, .slice p n c] := by rw [← hwE]; exact chunkBox w 5 f _
  have c0 := hcE.cell (i := 0) rfl
  have c1 := hcE.cell (i := 1) rfl
  have c2 := hcE.cell (i := 2) rfl
  have hchk := checkedTime ⟨w.heap.size, 0, none⟩ 5 f 5 0 p n c zs (enc 1 2 ++ enc 12 2 ++ enc (wrap64 x0) 8) true (wrap64 x0) wE (hr.below hbE) hz (((enc_byt _ _).append (enc_byt _ _)).append (enc_byt _ _)) (by omega) (by simp) (fun W h => pclTime 5 _ w.heap.size W (by have := h.size; omega) ((h.cell (p := ⟨w.heap.size, 0, none⟩) (by show w.heap.size < wE.heap.size; omega)).trans c0))
  have hmf : ∀ (fn : Fn) (first cap : Array Value) (w : World), (Instr.makeFunc fn first cap).run Try.prog w = .ok (.func fn first cap) w := fun _ _ _ _ => rfl
  have HCK := Lib.hid hchk
  have HRE := Lib.hid (hr.below hbE)
  have HBE := Lib.hid hbE
  clear hchk hbE hcE hr hxx0
  go_enter Try.func39, Try.ntmps39
  go_wp2_with fail
  refine (HNx0.out _ HRE.out).mono ?_
  rintro e w1 ⟨rfl, rfl⟩
  go_wp2_with fail
  refine HCK.out.mono ?_
  rintro e w2 ⟨hch, hb2⟩
  have HB2 := Lib.hid (HBE.out.trans (hb2.mono HBE.out.size))
  clear hb2 HCK HBE
  have HCH := Lib.hid hch
  rcases hch with ⟨h1, rfl⟩ | ⟨h1, rfl⟩
  · have H1 := Lib.hid h1
    clear h1
    go_wp2
    go_ret2
    exact ⟨.inl ⟨by have h := H1.out; simpa using h, rfl⟩, HB2.out⟩
  · have H1 := Lib.hid h1
    clear h1
    go_wp2
    go_ret2
    exact ⟨.inr ⟨by have h := H1.out; simpa using h, rfl⟩, HB2.out⟩

set_option maxRecDepth 100000 in
set_option maxHeartbeats 1600000 in
theorem pgetTimeN (k f : Int) (p : Option Addr) (n c : Nat) (zs : List Int) (w : World) (hr : Reads w p n zs) (hz : Byt zs) (hc : n ≤ c) (hn : n ≤ 281474976) (hk4 : k ≠ 4) (hk5 : k ≠ 5) (x0 : Int) (hxx0 : natAt zs 4 8 = x0) :
    Calls Try.prog 39 #[.agg #[.int .u8 k, .int .u8 f, .slice p n c]] w fun e w' => Chose (false) (.int .i64 (wrap64 x0)) (.int .i64 0) e ∧ Below w.heap.size w w' := by
  have HNx0 := Lib.hid (show ∀ W, Reads W p n zs → Calls Try.prog 50 #[.slice p n c, .int .i64 4, .int .i64 8] W fun e w' => e = .returned (.int .u64 x0) ∧ W = w' from fun W h => hxx0 ▸ num_any p n c 4 8 zs W h hz (by omega) (by omega) rfl)
  obtain ⟨lox0, hix0⟩ : 0 ≤ x0 ∧ x0 < 18446744073709551616 := hxx0 ▸ natAt8 hz 4
  obtain ⟨wE, hwE⟩ : ∃ wE, w.alloc (.cells #[.int .u8 k, .int .u8 f, .slice p n c] 28) = wE := ⟨_, rfl⟩
  have hbE : Below w.heap.size w wE := by rw [← hwE]; exact chunkBelow w k f _
  have hsE : wE.heap.size = w.heap.size + 1 := by rw [← hwE]; simp
  have hcE : Arr wE w.heap.size 28 [.int .u8 k, .int .u8 f, .slice p n c] := by rw [← hwE]; exact chunkBox w k f _
  have e4 : (k == 4) = false := by simpa using hk4
  have e5 : (k == 5) = false := by simpa using hk5
  have c0 := hcE.cell (i := 0) rfl
  have c1 := hcE.cell (i := 1) rfl
  have c2 := hcE.cell (i := 2) rfl
  have hchk := checkedTime ⟨w.heap.size, 0, none⟩ k f k 0 p n c zs (enc 1 2 ++ enc 12 2 ++ enc (wrap64 x0) 8) false (wrap64 x0) wE (hr.below hbE) hz (((enc_byt _ _).append (enc_byt _ _)).append (enc_byt _ _)) (by omega) (by simp) (fun W h => pclTime k _ w.heap.size W (by have := h.size; omega) ((h.cell (p := ⟨w.heap.size, 0, none⟩) (by show w.heap.size < wE.heap.size; omega)).trans c0))
  have hmf : ∀ (fn : Fn) (first cap : Array Value) (w : World), (Instr.makeFunc fn first cap).run Try.prog w = .ok (.func fn first cap) w := fun _ _ _ _ => rfl
  have HCK := Lib.hid hchk
  have HRE := Lib.hid (hr.below hbE)
  have HBE := Lib.hid hbE
  clear hchk hbE hcE hr hxx0
  go_enter Try.func39, Try.ntmps39
  go_wp2_with fail
  refine (HNx0.out _ HRE.out).mono ?_
  rintro e w1 ⟨rfl, rfl⟩
  go_wp2_with fail
  refine HCK.out.mono ?_
  rintro e w2 ⟨hch, hb2⟩
  have HB2 := Lib.hid (HBE.out.trans (hb2.mono HBE.out.size))
  clear hb2 HCK HBE
  have HCH := Lib.hid hch
  rcases hch with ⟨h1, rfl⟩ | ⟨h1, rfl⟩
  · have H1 := Lib.hid h1
    clear h1
    go_wp2
    go_ret2
    exact ⟨.inl ⟨by have h := H1.out; simpa using h, rfl⟩, HB2.out⟩
  · have H1 := Lib.hid h1
    clear h1
    go_wp2
    go_ret2
    exact ⟨.inr ⟨by have h := H1.out; simpa using h, rfl⟩, HB2.out⟩

/-- What the operations of the drawn region leave behind. -/
def GTimeR4 (w : World) (f x0 : Int) (p : Option Addr) (n c : Nat) (bb : Bool) (i : Nat) (v : Value) (W : World) : Prop := match i with | 0 => v = .pointer (some ⟨w.heap.size, 0, none⟩) | 1 => v = .int .u8 4 | 2 => v = .bool false | 3 => v = .bool false | 4 => v = undef | 5 => v = undef | 6 => v = undef | 7 => v = .bool false | 8 => v = .bool false | 9 => v = .pointer (some ⟨w.heap.size, 0, none⟩) | 10 => v = .int .u8 4 | 11 => v = .int .i64 (wrap64 x0) | 12 => ∃ a1 c1, v = .agg #[.int .u8 4, .int .u8 0, .slice a1 (enc 1 2 ++ enc 12 2 ++ enc (wrap64 x0) 8).length c1] ∧ Reads W a1 (enc 1 2 ++ enc 12 2 ++ enc (wrap64 x0) 8).length (enc 1 2 ++ enc 12 2 ++ enc (wrap64 x0) 8) | 13 => v = .agg #[.int .u8 4, .int .u8 f, .slice p n c] | 14 => v = .bool bb | 15 => v = .bool (!bb) | 16 => v = .bool (!bb) | _ => True
theorem GTimeR4_mono {w : World} {f x0 : Int} {p : Option Addr} {n c : Nat} {bb : Bool} {W W' : World} (hb : Below W.heap.size W W') (j : Nat) (x : Value) (h : GTimeR4 w f x0 p n c bb j x W) : GTimeR4 w f x0 p n c bb j x W' := by
  unfold GTimeR4 at h ⊢
  split at h <;> try exact h
  · obtain ⟨a1, c1, e0, h0_0⟩ := h
    exact ⟨a1, c1, e0, h0_0.below hb⟩

set_option maxRecDepth 100000 in
set_option maxHeartbeats 1600000 in
theorem rgetTime4 (f : Int) (p : Option Addr) (n c : Nat) (zs : List Int) (w : World) (hr : Reads w p n zs) (hz : Byt zs) (hc : n ≤ c) (hn : n ≤ 281474976) (x0 : Int) (hxx0 : natAt zs 4 8 = x0) :
    Calls Try.prog 40 #[.agg #[.int .u8 4, .int .u8 f, .slice p n c]] w fun e w' => Chose (eqC 4 0 (enc 1 2 ++ enc 12 2 ++ enc (wrap64 x0) 8) 4 f zs) (.int .i64 (wrap64 x0)) (.int .i64 0) e ∧ Below w.heap.size w w' := by
  have HNx0 := Lib.hid (show ∀ W, Reads W p n zs → Calls Try.prog 53 #[.slice p n c, .int .i64 4, .int .i64 8] W fun e w' => e = .returned (.int .u64 x0) ∧ Below W.heap.size W w' from fun W h => hxx0 ▸ numR_any p n c 4 8 zs W h hz hc (by omega) (by omega) rfl)
  obtain ⟨lox0, hix0⟩ : 0 ≤ x0 ∧ x0 < 18446744073709551616 := hxx0 ▸ natAt8 hz 4
  obtain ⟨wE, hwE⟩ : ∃ wE, w.alloc (.cells #[.int .u8 4, .int .u8 f, .slice p n c] 28) = wE := ⟨_, rfl⟩
  have hbE : Below w.heap.size w wE := by rw [← hwE]; exact chunkBelow w 4 f _
  have hsE : wE.heap.size = w.heap.size + 1 := by rw [← hwE]; simp
  have hcE : Arr wE w.heap.size 28 [.int .u8 4, .int .u8 f, .slice p n c] := by rw [← hwE]; exact chunkBox w 4 f _
  obtain ⟨bb, hbb⟩ : ∃ bb, bb = eqC 4 0 (enc 1 2 ++ enc 12 2 ++ enc (wrap64 x0) 8) 4 f zs := ⟨_, rfl⟩
  rw [← hbb]
  have HBB := Lib.hid hbb
  have HC0 := Lib.hid hcE
  have HB0 := Lib.hid hbE
  have HR0 := Lib.hid hr
  have c2 := hcE.cell (i := 2) rfl
  clear hbb hcE hbE hr hxx0
  go_enter Try.func40, Try.ntmps40
  go_wp2_with fail
  refine (HNx0.out _ (HR0.out.below HB0.out)).mono ?_
  rintro e w1 ⟨rfl, hb1⟩
  have hbE := HB0.out.trans (hb1.mono HB0.out.size)
  have HC := Lib.hid (HC0.out.keep hb1)
  have HBE := Lib.hid hbE
  have HRW := Lib.hid (show ∀ W, Below w1.heap.size w1 W → Reads W p n zs from fun W h => HR0.out.below (hbE.trans (h.mono hbE.size)))
  clear hb1 hbE HC0 HB0 HR0 HNx0 c2
  go_wp2_with fail
  refine wp_region_any (by kernel_rfl) ?_
  refine Vals.wpAny_goodW (GTimeR4 w f x0 p n c bb) (fun _ => (fun W => Below w1.heap.size w1 W)) [some 9, some 10, some 11, some 12, some 13, some 14, some 15, some 16, some 17, some 18, some 19, some 20, some 21, some 22, some 23, some 24, some 25] 27 _ _ rfl (by kernel_rfl) (by kernel_rfl) (by decide) ?step ?fin (Below.refl _ _).drew
  case step =>
    intro i o d ho hd listed a W hls hun hcl hJ hdf hdep hfr K hK
    match i, ho, hd with
    | 0, ho, hd =>
      have ho' := ho
      simp only [List.getElem?_toArray, List.getElem?_cons_zero, Option.some.injEq] at ho hd
      subst ho hd
      have r1 : a.eval (.tmp 1) = .pointer (some ⟨w.heap.size, 0, none⟩) := hfr 1 (by decide)
      rw [Vals.eval_tmp] at r1
      refine Vals.wpOp_run ho' rfl ?_
      clear hdep hfr ho' hdf hcl
      go_simp
      exact hK _ _ (fun _ _ h => h) hJ (fun _ => rfl)
    | 1, ho, hd =>
      have ho' := ho
      simp only [List.getElem?_toArray, List.getElem?_cons_zero, List.getElem?_cons_succ, Option.some.injEq] at ho hd
      subst ho hd
      have r9 : a.eval (.tmp 9) = .pointer (some ⟨w.heap.size, 0, none⟩) := (hdep ⟨0, .data⟩ (by simp) rfl).2 9 rfl
      rw [Vals.eval_tmp] at r9
      have c0 := (HC.out.keep hJ).cell (i := 0) rfl
      refine Vals.wpOp_run ho' rfl ?_
      clear hdep hfr ho' hdf hcl
      go_simp
      exact hK _ _ (fun _ _ h => h) hJ (fun _ => rfl)
    | 2, ho, hd =>
      have ho' := ho
      simp only [List.getElem?_toArray, List.getElem?_cons_zero, List.getElem?_cons_succ, Option.some.injEq] at ho hd
      subst ho hd
      have r10 : a.eval (.tmp 10) = .int .u8 4 := (hdep ⟨1, .data⟩ (by simp) rfl).2 10 rfl
      rw [Vals.eval_tmp] at r10
      refine Vals.wpOp_run ho' rfl ?_
      clear hdep hfr ho' hdf hcl
      go_simp
      exact hK _ _ (fun _ _ h => h) hJ (fun _ => rfl)
    | 3, ho, hd =>
      have ho' := ho
      simp only [List.getElem?_toArray, List.getElem?_cons_zero, List.getElem?_cons_succ, Option.some.injEq] at ho hd
      subst ho hd
      have r11 : a.eval (.tmp 11) = .bool false := (hdep ⟨2, .data⟩ (by simp) rfl).2 11 rfl
      rw [Vals.eval_tmp] at r11
      refine Vals.wpOp_run ho' rfl ?_
      clear hdep hfr ho' hdf hcl
      go_simp
      exact hK _ _ (fun _ _ h => h) hJ (fun _ => rfl)
    | 4, ho, hd =>
      have ho' := ho
      simp only [List.getElem?_toArray, List.getElem?_cons_zero, List.getElem?_cons_succ, Option.some.injEq] at ho hd
      subst ho hd
      have hgd : a.eval (.tmp 12) = .bool false := (hdep ⟨3, .guard⟩ (by simp) rfl).2 12 rfl
      exact Vals.wpOp_skip ho' (by unfold Region.wanted; simp only []; rw [Vals.yielded_of (d := 12) rfl hgd]; rfl) (hK _ _ (fun _ _ h => h) hJ (fun _ => rfl))
    | 5, ho, hd =>
      have ho' := ho
      simp only [List.getElem?_toArray, List.getElem?_cons_zero, List.getElem?_cons_succ, Option.some.injEq] at ho hd
      subst ho hd
      have hgd : a.eval (.tmp 12) = .bool false := (hdep ⟨3, .guard⟩ (by simp) rfl).2 12 rfl
      exact Vals.wpOp_skip ho' (by unfold Region.wanted; simp only []; rw [Vals.yielded_of (d := 12) rfl hgd]; rfl) (hK _ _ (fun _ _ h => h) hJ (fun _ => rfl))
    | 6, ho, hd =>
      have ho' := ho
      simp only [List.getElem?_toArray, List.getElem?_cons_zero, List.getElem?_cons_succ, Option.some.injEq] at ho hd
      subst ho hd
      have hgd : a.eval (.tmp 12) = .bool false := (hdep ⟨3, .guard⟩ (by simp) rfl).2 12 rfl
      exact Vals.wpOp_skip ho' (by unfold Region.wanted; simp only []; rw [Vals.yielded_of (d := 12) rfl hgd]; rfl) (hK _ _ (fun _ _ h => h) hJ (fun _ => rfl))
    | 7, ho, hd =>
      have ho' := ho
      simp only [List.getElem?_toArray, List.getElem?_cons_zero, List.getElem?_cons_succ, Option.some.injEq] at ho hd
      subst ho hd
      have r12 : a.eval (.tmp 12) = .bool false := (hdep ⟨3, .data⟩ (by simp) rfl).2 12 rfl
      rw [Vals.eval_tmp] at r12
      refine Vals.wpOp_run ho' rfl ?_
      clear hdep hfr ho' hdf hcl
      go_simp
      exact hK _ _ (fun _ _ h => h) hJ (fun _ => rfl)
    | 8, ho, hd =>
      have ho' := ho
      simp only [List.getElem?_toArray, List.getElem?_cons_zero, List.getElem?_cons_succ, Option.some.injEq] at ho hd
      subst ho hd
      have r16 : a.eval (.tmp 16) = .bool false := (hdep ⟨7, .data⟩ (by simp) rfl).2 16 rfl
      rw [Vals.eval_tmp] at r16
      refine Vals.wpOp_run ho' rfl ?_
      clear hdep hfr ho' hdf hcl
      go_simp
      exact hK _ _ (fun _ _ h => h) hJ (fun _ => rfl)
    | 9, ho, hd =>
      have ho' := ho
      simp only [List.getElem?_toArray, List.getElem?_cons_zero, List.getElem?_cons_succ, Option.some.injEq] at ho hd
      subst ho hd
      have hgd : a.eval (.tmp 17) = .bool false := (hdep ⟨8, .guard⟩ (by simp) rfl).2 17 rfl
      have r1 : a.eval (.tmp 1) = .pointer (some ⟨w.heap.size, 0, none⟩) := hfr 1 (by decide)
      rw [Vals.eval_tmp] at r1
      refine Vals.wpOp_run ho' (by unfold Region.wanted; simp only []; rw [Vals.yielded_of (d := 17) rfl hgd]; rfl) ?_
      clear hdep hfr ho' hdf hgd hcl
      go_simp
      exact hK _ _ (fun _ _ h => h) hJ (fun _ => rfl)
    | 10, ho, hd =>
      have ho' := ho
      simp only [List.getElem?_toArray, List.getElem?_cons_zero, List.getElem?_cons_succ, Option.some.injEq] at ho hd
      subst ho hd
      have hgd : a.eval (.tmp 17) = .bool false := (hdep ⟨8, .guard⟩ (by simp) rfl).2 17 rfl
      have r18 : a.eval (.tmp 18) = .pointer (some ⟨w.heap.size, 0, none⟩) := (hdep ⟨9, .data⟩ (by simp) rfl).2 18 rfl
      rw [Vals.eval_tmp] at r18
      have c0 := (HC.out.keep hJ).cell (i := 0) rfl
      refine Vals.wpOp_run ho' (by unfold Region.wanted; simp only []; rw [Vals.yielded_of (d := 17) rfl hgd]; rfl) ?_
      clear hdep hfr ho' hdf hgd hcl
      go_simp
      exact hK _ _ (fun _ _ h => h) hJ (fun _ => rfl)
    | 11, ho, hd =>
      have ho' := ho
      simp only [List.getElem?_toArray, List.getElem?_cons_zero, List.getElem?_cons_succ, Option.some.injEq] at ho hd
      subst ho hd
      have hgd : a.eval (.tmp 17) = .bool false := (hdep ⟨8, .guard⟩ (by simp) rfl).2 17 rfl
      have r4 : a.eval (.tmp 4) = .int .i64 (wrap64 x0) := hfr 4 (by decide)
      rw [Vals.eval_tmp] at r4
      refine Vals.wpOp_run ho' (by unfold Region.wanted; simp only []; rw [Vals.yielded_of (d := 17) rfl hgd]; rfl) ?_
      clear hdep hfr ho' hdf hgd hcl
      go_simp
      exact hK _ _ (fun _ _ h => h) hJ (fun _ => rfl)
    | 12, ho, hd =>
      have ho' := ho
      simp only [List.getElem?_toArray, List.getElem?_cons_zero, List.getElem?_cons_succ, Option.some.injEq] at ho hd
      subst ho hd
      have hgd : a.eval (.tmp 17) = .bool false := (hdep ⟨8, .guard⟩ (by simp) rfl).2 17 rfl
      have r19 : a.eval (.tmp 19) = .int .u8 4 := (hdep ⟨10, .data⟩ (by simp) rfl).2 19 rfl
      rw [Vals.eval_tmp] at r19
      have r20 : a.eval (.tmp 20) = .int .i64 (wrap64 x0) := (hdep ⟨11, .data⟩ (by simp) rfl).2 20 rfl
      rw [Vals.eval_tmp] at r20
      refine Vals.wpOp_run ho' (by unfold Region.wanted; simp only []; rw [Vals.yielded_of (d := 17) rfl hgd]; rfl) ?_
      clear hdep hfr ho' hdf hgd hcl
      go_simp
      refine (rputTime 4 (wrap64 x0) W).mono ?_
      rintro e w' ⟨a1, c1, rfl, hb3, hr3⟩
      exact hK _ _ (GTimeR4_mono hb3) (hJ.trans (hb3.mono hJ.size)) (fun _ => ⟨_, _, rfl, hr3.reads⟩)
    | 13, ho, hd =>
      have ho' := ho
      simp only [List.getElem?_toArray, List.getElem?_cons_zero, List.getElem?_cons_succ, Option.some.injEq] at ho hd
      subst ho hd
      have hgd : a.eval (.tmp 17) = .bool false := (hdep ⟨8, .guard⟩ (by simp) rfl).2 17 rfl
      have r1 : a.eval (.tmp 1) = .pointer (some ⟨w.heap.size, 0, none⟩) := hfr 1 (by decide)
      rw [Vals.eval_tmp] at r1
      have c0 := (HC.out.keep hJ).cell (i := 0) rfl
      have c1 := (HC.out.keep hJ).cell (i := 1) rfl
      have c2 := (HC.out.keep hJ).cell (i := 2) rfl
      refine Vals.wpOp_run ho' (by unfold Region.wanted; simp only []; rw [Vals.yielded_of (d := 17) rfl hgd]; rfl) ?_
      clear hdep hfr ho' hdf hgd hcl
      go_simp
      exact hK _ _ (fun _ _ h => h) hJ (fun _ => rfl)
    | 14, ho, hd =>
      have ho' := ho
      simp only [List.getElem?_toArray, List.getElem?_cons_zero, List.getElem?_cons_succ, Option.some.injEq] at ho hd
      subst ho hd
      have hgd : a.eval (.tmp 17) = .bool false := (hdep ⟨8, .guard⟩ (by simp) rfl).2 17 rfl
      have g21 : ∃ a1_21 c1_21, a.eval (.tmp 21) = .agg #[.int .u8 4, .int .u8 0, .slice a1_21 (enc 1 2 ++ enc 12 2 ++ enc (wrap64 x0) 8).length c1_21] ∧ Reads W a1_21 (enc 1 2 ++ enc 12 2 ++ enc (wrap64 x0) 8).length (enc 1 2 ++ enc 12 2 ++ enc (wrap64 x0) 8) := (hdep ⟨12, .data⟩ (by simp) rfl).2 21 rfl
      rw [Vals.eval_tmp] at g21
      obtain ⟨a1_21, c1_21, r21, h21_0⟩ := g21
      have r22 : a.eval (.tmp 22) = .agg #[.int .u8 4, .int .u8 f, .slice p n c] := (hdep ⟨13, .data⟩ (by simp) rfl).2 22 rfl
      rw [Vals.eval_tmp] at r22
      refine Vals.wpOp_run ho' (by unfold Region.wanted; simp only []; rw [Vals.yielded_of (d := 17) rfl hgd]; rfl) ?_
      clear hdep hfr ho' hdf hgd hcl
      go_simp
      refine (rsame_any 4 0 4 f a1_21 p _ n _ c (enc 1 2 ++ enc 12 2 ++ enc (wrap64 x0) 8) zs W h21_0 (HRW.out W hJ) (((enc_byt _ _).append (enc_byt _ _)).append (enc_byt _ _)) hz (by simp) (by omega)).mono ?_
      rintro e w' ⟨rfl, hb3⟩
      exact hK _ _ (GTimeR4_mono hb3) (hJ.trans (hb3.mono hJ.size)) (fun _ => by show Value.bool _ = Value.bool _; first | rfl | rw [HBB.out])
    | 15, ho, hd =>
      have ho' := ho
      simp only [List.getElem?_toArray, List.getElem?_cons_zero, List.getElem?_cons_succ, Option.some.injEq] at ho hd
      subst ho hd
      have hgd : a.eval (.tmp 17) = .bool false := (hdep ⟨8, .guard⟩ (by simp) rfl).2 17 rfl
      have r23 : a.eval (.tmp 23) = .bool bb := (hdep ⟨14, .data⟩ (by simp) rfl).2 23 rfl
      rw [Vals.eval_tmp] at r23
      refine Vals.wpOp_run ho' (by unfold Region.wanted; simp only []; rw [Vals.yielded_of (d := 17) rfl hgd]; rfl) ?_
      clear hdep hfr ho' hdf hgd hcl
      go_simp
      exact hK _ _ (fun _ _ h => h) hJ (fun _ => rfl)
    | 16, ho, hd =>
      have ho' := ho
      simp only [List.getElem?_toArray, List.getElem?_cons_zero, List.getElem?_cons_succ, Option.some.injEq] at ho hd
      subst ho hd
      have r17 : a.eval (.tmp 17) = .bool false := (hdep ⟨8, .data⟩ (by simp) rfl).2 17 rfl
      rw [Vals.eval_tmp] at r17
      have r24 : a.eval (.tmp 24) = .bool (!bb) := (hdep ⟨15, .data⟩ (by simp) rfl).2 24 rfl
      rw [Vals.eval_tmp] at r24
      refine Vals.wpOp_run ho' rfl ?_
      clear hdep hfr ho' hdf hcl
      go_simp
      exact hK _ _ (fun _ _ h => h) hJ (fun _ => rfl)
    | i + 17, ho, hd => simp at ho
  case fin =>
    intro listed W fq hall hJ hG
    have q0 : fq 9 = .pointer (some ⟨w.heap.size, 0, none⟩) := hG 0 9 rfl
    have q1 : fq 10 = .int .u8 4 := hG 1 10 rfl
    have q2 : fq 11 = .bool false := hG 2 11 rfl
    have q3 : fq 12 = .bool false := hG 3 12 rfl
    have q4 : fq 13 = undef := hG 4 13 rfl
    have q5 : fq 14 = undef := hG 5 14 rfl
    have q6 : fq 15 = undef := hG 6 15 rfl
    have q7 : fq 16 = .bool false := hG 7 16 rfl
    have q8 : fq 17 = .bool false := hG 8 17 rfl
    have q9 : fq 18 = .pointer (some ⟨w.heap.size, 0, none⟩) := hG 9 18 rfl
    have q10 : fq 19 = .int .u8 4 := hG 10 19 rfl
    have q11 : fq 20 = .int .i64 (wrap64 x0) := hG 11 20 rfl
    obtain ⟨a1_21, c1_21, q12, hq21_0⟩ : ∃ a1_21 c1_21, fq 21 = .agg #[.int .u8 4, .int .u8 0, .slice a1_21 (enc 1 2 ++ enc 12 2 ++ enc (wrap64 x0) 8).length c1_21] ∧ Reads W a1_21 (enc 1 2 ++ enc 12 2 ++ enc (wrap64 x0) 8).length (enc 1 2 ++ enc 12 2 ++ enc (wrap64 x0) 8) := hG 12 21 rfl
    have q13 : fq 22 = .agg #[.int .u8 4, .int .u8 f, .slice p n c] := hG 13 22 rfl
    have q14 : fq 23 = .bool bb := hG 14 23 rfl
    have q15 : fq 24 = .bool (!bb) := hG 15 24 rfl
    have q16 : fq 25 = .bool (!bb) := hG 16 25 rfl
    clear hG hall
    simp only [Vals.puts, Vals.pairs, List.filterMap_cons, List.filterMap_nil, id, List.map_cons, List.map_nil, List.foldl_cons, List.foldl_nil, q0, q1, q2, q3, q4, q5, q6, q7, q8, q9, q10, q11, q12, q13, q14, q15, q16]
    clear q0 q1 q2 q3 q4 q5 q6 q7 q8 q9 q10 q11 q12 q13 q14 q15 q16
    go_frame
    have HJ := Lib.hid (HBE.out.trans (hJ.mono HBE.out.size))
    clear hJ HRW HC HBE
    cases bb
    · go_wp2
      go_ret2
      exact ⟨.inr ⟨rfl, rfl⟩, HJ.out⟩
    · go_wp2
      go_ret2
      exact ⟨.inl ⟨rfl, rfl⟩, HJ.out⟩

/-- What the operations of the drawn region leave behind. -/
def GTimeR5 (w : World) (f x0 : Int) (p : Option Addr) (n c : Nat) (bb : Bool) (i : Nat) (v : Value) (W : World) : Prop := match i with | 0 => v = .pointer (some ⟨w.heap.size, 0, none⟩) | 1 => v = .int .u8 5 | 2 => v = .bool true | 3 => v = .bool true | 4 => v = .pointer (some ⟨w.heap.size, 0, none⟩) | 5 => v = .int .u8 5 | 6 => v = .bool false | 7 => v = .bool false | 8 => v = .bool false | 9 => v = .pointer (some ⟨w.heap.size, 0, none⟩) | 10 => v = .int .u8 5 | 11 => v = .int .i64 (wrap64 x0) | 12 => ∃ a1 c1, v = .agg #[.int .u8 5, .int .u8 0, .slice a1 (enc 1 2 ++ enc 12 2 ++ enc (wrap64 x0) 8).length c1] ∧ Reads W a1 (enc 1 2 ++ enc 12 2 ++ enc (wrap64 x0) 8).length (enc 1 2 ++ enc 12 2 ++ enc (wrap64 x0) 8) | 13 => v = .agg #[.int .u8 5, .int .u8 f, .slice p n c] | 14 => v = .bool bb | 15 => v = .bool (!bb) | 16 => v = .bool (!bb) | _ => True
theorem GTimeR5_mono {w : World} {f x0 : Int} {p : Option Addr} {n c : Nat} {bb : Bool} {W W' : World} (hb : Below W.heap.size W W') (j : Nat) (x : Value) (h : GTimeR5 w f x0 p n c bb j x W) : GTimeR5 w f x0 p n c bb j x W' := by
  unfold GTimeR5 at h ⊢
  split at h <;> try exact h
  · obtain ⟨a1, c1, e0, h0_0⟩ := h
    exact ⟨a1, c1, e0, h0_0.below hb⟩

set_option maxRecDepth 100000 in
set_option maxHeartbeats 1600000 in
theorem rgetTime5 (f : Int) (p : Option Addr) (n c : Nat) (zs : List Int) (w : World) (hr : Reads w p n zs) (hz : Byt zs) (hc : n ≤ c) (hn : n ≤ 281474976) (x0 : Int) (hxx0 : natAt zs 4 8 = x0) :
    Calls Try.prog 40 #[.agg #[.int .u8 5, .int .u8 f, .slice p n c]] w fun e w' => Chose (eqC 5 0 (enc 1 2 ++ enc 12 2 ++ enc (wrap64 x0) 8) 5 f zs) (.int .i64 (wrap64 x0)) (.int .i64 0) e ∧ Below w.heap.size w w' := by
  have HNx0 := Lib.hid (show ∀ W, Reads W p n zs → Calls Try.prog 53 #[.slice p n c, .int .i64 4, .int .i64 8] W fun e w' => e = .returned (.int .u64 x0) ∧ Below W.heap.size W w' from fun W h => hxx0 ▸ numR_any p n c 4 8 zs W h hz hc (by omega) (by omega) rfl)
  obtain ⟨lox0, hix0⟩ : 0 ≤ x0 ∧ x0 < 18446744073709551616 := hxx0 ▸ natAt8 hz 4
  obtain ⟨wE, hwE⟩ : ∃ wE, w.alloc (.cells #[.int .u8 5, .int .u8 f, .slice p n c] 28) = wE := ⟨_, rfl⟩
  have hbE : Below w.heap.size w wE := by rw [← hwE]; exact chunkBelow w 5 f _
  have hsE : wE.heap.size = w.heap.size + 1 := by rw [← hwE]; simp
  have hcE : Arr wE w.heap.size 28 [.int .u8 5, .int .u8 f, .slice p n c] := by rw [← hwE]; exact chunkBox w 5 f _
  obtain ⟨bb, hbb⟩ : ∃ bb, bb = eqC 5 0 (enc 1 2 ++ enc 12 2 ++ enc (wrap64 x0) 8) 5 f zs := ⟨_, rfl⟩
  rw [← hbb]
  have HBB := Lib.hid hbb
  have HC0 := Lib.hid hcE
  have HB0 := Lib.hid hbE
  have HR0 := Lib.hid hr
  have c2 := hcE.cell (i := 2) rfl
  clear hbb hcE hbE hr hxx0
  go_enter Try.func40, Try.ntmps40
  go_wp2_with fail
  refine (HNx0.out _ (HR0.out.below HB0.out)).mono ?_
  rintro e w1 ⟨rfl, hb1⟩
  have hbE := HB0.out.trans (hb1.mono HB0.out.size)
  have HC := Lib.hid (HC0.out.keep hb1)
  have HBE := Lib.hid hbE
  have HRW := Lib.hid (show ∀ W, Below w1.heap.size w1 W → Reads W p n zs from fun W h => HR0.out.below (hbE.trans (h.mono hbE.size)))
  clear hb1 hbE HC0 HB0 HR0 HNx0 c2
  go_wp2_with fail
  refine wp_region_any (by kernel_rfl) ?_
  refine Vals.wpAny_goodW (GTimeR5 w f x0 p n c bb) (fun _ => (fun W => Below w1.heap.size w1 W)) [some 9, some 10, some 11, some 12, some 13, some 14, some 15, some 16, some 17, some 18, some 19, some 20, some 21, some 22, some 23, some 24, some 25] 27 _ _ rfl (by kernel_rfl) (by kernel_rfl) (by decide) ?step ?fin (Below.refl _ _).drew
  case step =>
    intro i o d ho hd listed a W hls hun hcl hJ hdf hdep hfr K hK
    match i, ho, hd with
    | 0, ho, hd =>
      have ho' := ho
      simp only [List.getElem?_toArray, List.getElem?_cons_zero, Option.some.injEq] at ho hd
      subst ho hd
      have r1 : a.eval (.tmp 1) = .pointer (some ⟨w.heap.size, 0, none⟩) := hfr 1 (by decide)
      rw [Vals.eval_tmp] at r1
      refine Vals.wpOp_run ho' rfl ?_
      clear hdep hfr ho' hdf hcl
      go_simp
      exact hK _ _ (fun _ _ h => h) hJ (fun _ => rfl)
    | 1, ho, hd =>
      have ho' := ho
      simp only [List.getElem?_toArray, List.getElem?_cons_zero, List.getElem?_cons_succ, Option.some.injEq] at ho hd
      subst ho hd
      have r9 : a.eval (.tmp 9) = .pointer (some ⟨w.heap.size, 0, none⟩) := (hdep ⟨0, .data⟩ (by simp) rfl).2 9 rfl
      rw [Vals.eval_tmp] at r9
      have c0 := (HC.out.keep hJ).cell (i := 0) rfl
      refine Vals.wpOp_run ho' rfl ?_
      clear hdep hfr ho' hdf hcl
      go_simp
      exact hK _ _ (fun _ _ h => h) hJ (fun _ => rfl)
    | 2, ho, hd =>
      have ho' := ho
      simp only [List.getElem?_toArray, List.getElem?_cons_zero, List.getElem?_cons_succ, Option.some.injEq] at ho hd
      subst ho hd
      have r10 : a.eval (.tmp 10) = .int .u8 5 := (hdep ⟨1, .data⟩ (by simp) rfl).2 10 rfl
      rw [Vals.eval_tmp] at r10
      refine Vals.wpOp_run ho' rfl ?_
      clear hdep hfr ho' hdf hcl
      go_simp
      exact hK _ _ (fun _ _ h => h) hJ (fun _ => rfl)
    | 3, ho, hd =>
      have ho' := ho
      simp only [List.getElem?_toArray, List.getElem?_cons_zero, List.getElem?_cons_succ, Option.some.injEq] at ho hd
      subst ho hd
      have r11 : a.eval (.tmp 11) = .bool true := (hdep ⟨2, .data⟩ (by simp) rfl).2 11 rfl
      rw [Vals.eval_tmp] at r11
      refine Vals.wpOp_run ho' rfl ?_
      clear hdep hfr ho' hdf hcl
      go_simp
      exact hK _ _ (fun _ _ h => h) hJ (fun _ => rfl)
    | 4, ho, hd =>
      have ho' := ho
      simp only [List.getElem?_toArray, List.getElem?_cons_zero, List.getElem?_cons_succ, Option.some.injEq] at ho hd
      subst ho hd
      have hgd : a.eval (.tmp 12) = .bool true := (hdep ⟨3, .guard⟩ (by simp) rfl).2 12 rfl
      have r1 : a.eval (.tmp 1) = .pointer (some ⟨w.heap.size, 0, none⟩) := hfr 1 (by decide)
      rw [Vals.eval_tmp] at r1
      refine Vals.wpOp_run ho' (by unfold Region.wanted; simp only []; rw [Vals.yielded_of (d := 12) rfl hgd]; rfl) ?_
      clear hdep hfr ho' hdf hgd hcl
      go_simp
      exact hK _ _ (fun _ _ h => h) hJ (fun _ => rfl)
    | 5, ho, hd =>
      have ho' := ho
      simp only [List.getElem?_toArray, List.getElem?_cons_zero, List.getElem?_cons_succ, Option.some.injEq] at ho hd
      subst ho hd
      have hgd : a.eval (.tmp 12) = .bool true := (hdep ⟨3, .guard⟩ (by simp) rfl).2 12 rfl
      have r13 : a.eval (.tmp 13) = .pointer (some ⟨w.heap.size, 0, none⟩) := (hdep ⟨4, .data⟩ (by simp) rfl).2 13 rfl
      rw [Vals.eval_tmp] at r13
      have c0 := (HC.out.keep hJ).cell (i := 0) rfl
      refine Vals.wpOp_run ho' (by unfold Region.wanted; simp only []; rw [Vals.yielded_of (d := 12) rfl hgd]; rfl) ?_
      clear hdep hfr ho' hdf hgd hcl
      go_simp
      exact hK _ _ (fun _ _ h => h) hJ (fun _ => rfl)
    | 6, ho, hd =>
      have ho' := ho
      simp only [List.getElem?_toArray, List.getElem?_cons_zero, List.getElem?_cons_succ, Option.some.injEq] at ho hd
      subst ho hd
      have hgd : a.eval (.tmp 12) = .bool true := (hdep ⟨3, .guard⟩ (by simp) rfl).2 12 rfl
      have r14 : a.eval (.tmp 14) = .int .u8 5 := (hdep ⟨5, .data⟩ (by simp) rfl).2 14 rfl
      rw [Vals.eval_tmp] at r14
      refine Vals.wpOp_run ho' (by unfold Region.wanted; simp only []; rw [Vals.yielded_of (d := 12) rfl hgd]; rfl) ?_
      clear hdep hfr ho' hdf hgd hcl
      go_simp
      exact hK _ _ (fun _ _ h => h) hJ (fun _ => rfl)
    | 7, ho, hd =>
      have ho' := ho
      simp only [List.getElem?_toArray, List.getElem?_cons_zero, List.getElem?_cons_succ, Option.some.injEq] at ho hd
      subst ho hd
      have r12 : a.eval (.tmp 12) = .bool true := (hdep ⟨3, .data⟩ (by simp) rfl).2 12 rfl
      rw [Vals.eval_tmp] at r12
      have r15 : a.eval (.tmp 15) = .bool false := (hdep ⟨6, .data⟩ (by simp) rfl).2 15 rfl
      rw [Vals.eval_tmp] at r15
      refine Vals.wpOp_run ho' rfl ?_
      clear hdep hfr ho' hdf hcl
      go_simp
      exact hK _ _ (fun _ _ h => h) hJ (fun _ => rfl)
    | 8, ho, hd =>
      have ho' := ho
      simp only [List.getElem?_toArray, List.getElem?_cons_zero, List.getElem?_cons_succ, Option.some.injEq] at ho hd
      subst ho hd
      have r16 : a.eval (.tmp 16) = .bool false := (hdep ⟨7, .data⟩ (by simp) rfl).2 16 rfl
      rw [Vals.eval_tmp] at r16
      refine Vals.wpOp_run ho' rfl ?_
      clear hdep hfr ho' hdf hcl
      go_simp
      exact hK _ _ (fun _ _ h => h) hJ (fun _ => rfl)
    | 9, ho, hd =>
      have ho' := ho
      simp only [List.getElem?_toArray, List.getElem?_cons_zero, List.getElem?_cons_succ, Option.some.injEq] at ho hd
      subst ho hd
      have hgd : a.eval (.tmp 17) = .bool false := (hdep ⟨8, .guard⟩ (by simp) rfl).2 17 rfl
      have r1 : a.eval (.tmp 1) = .pointer (some ⟨w.heap.size, 0, none⟩) := hfr 1 (by decide)
      rw [Vals.eval_tmp] at r1
      refine Vals.wpOp_run ho' (by unfold Region.wanted; simp only []; rw [Vals.yielded_of (d := 17) rfl hgd]; rfl) ?_
      clear hdep hfr ho' hdf hgd hcl
      go_simp
      exact hK _ _ (fun _ _ h => h) hJ (fun _ => rfl)
    | 10, ho, hd =>
      have ho' := ho
      simp only [List.getElem?_toArray, List.getElem?_cons_zero, List.getElem?_cons_succ, Option.some.injEq] at ho hd
      subst ho hd
      have hgd : a.eval (.tmp 17) = .bool false := (hdep ⟨8, .guard⟩ (by simp) rfl).2 17 rfl
      have r18 : a.eval (.tmp 18) = .pointer (some ⟨w.heap.size, 0, none⟩) := (hdep ⟨9, .data⟩ (by simp) rfl).2 18 rfl
      rw [Vals.eval_tmp] at r18
      have c0 := (HC.out.keep hJ).cell (i := 0) rfl
      refine Vals.wpOp_run ho' (by unfold Region.wanted; simp only []; rw [Vals.yielded_of (d := 17) rfl hgd]; rfl) ?_
      clear hdep hfr ho' hdf hgd hcl
      go_simp
      exact hK _ _ (fun _ _ h => h) hJ (fun _ => rfl)
    | 11, ho, hd =>
      have ho' := ho
      simp only [List.getElem?_toArray, List.getElem?_cons_zero, List.getElem?_cons_succ, Option.some.injEq] at ho hd
      subst ho hd
      have hgd : a.eval (.tmp 17) = .bool false := (hdep ⟨8, .guard⟩ (by simp) rfl).2 17 rfl
      have r4 : a.eval (.tmp 4) = .int .i64 (wrap64 x0) := hfr 4 (by decide)
      rw [Vals.eval_tmp] at r4
      refine Vals.wpOp_run ho' (by unfold Region.wanted; simp only []; rw [Vals.yielded_of (d := 17) rfl hgd]; rfl) ?_
      clear hdep hfr ho' hdf hgd hcl
      go_simp
      exact hK _ _ (fun _ _ h => h) hJ (fun _ => rfl)
    | 12, ho, hd =>
      have ho' := ho
      simp only [List.getElem?_toArray, List.getElem?_cons_zero, List.getElem?_cons_succ, Option.some.injEq] at ho hd
      subst ho hd
      have hgd : a.eval (.tmp 17) = .bool false := (hdep ⟨8, .guard⟩ (by simp) rfl).2 17 rfl
      have r19 : a.eval (.tmp 19) = .int .u8 5 := (hdep ⟨10, .data⟩ (by simp) rfl).2 19 rfl
      rw [Vals.eval_tmp] at r19
      have r20 : a.eval (.tmp 20) = .int .i64 (wrap64 x0) := (hdep ⟨11, .data⟩ (by simp) rfl).2 20 rfl
      rw [Vals.eval_tmp] at r20
      refine Vals.wpOp_run ho' (by unfold Region.wanted; simp only []; rw [Vals.yielded_of (d := 17) rfl hgd]; rfl) ?_
      clear hdep hfr ho' hdf hgd hcl
      go_simp
      refine (rputTime 5 (wrap64 x0) W).mono ?_
      rintro e w' ⟨a1, c1, rfl, hb3, hr3⟩
      exact hK _ _ (GTimeR5_mono hb3) (hJ.trans (hb3.mono hJ.size)) (fun _ => ⟨_, _, rfl, hr3.reads⟩)
    | 13, ho, hd =>
      have ho' := ho
      simp only [List.getElem?_toArray, List.getElem?_cons_zero, List.getElem?_cons_succ, Option.some.injEq] at ho hd
      subst ho hd
      have hgd : a.eval (.tmp 17) = .bool false := (hdep ⟨8, .guard⟩ (by simp) rfl).2 17 rfl
      have r1 : a.eval (.tmp 1) = .pointer (some ⟨w.heap.size, 0, none⟩) := hfr 1 (by decide)
      rw [Vals.eval_tmp] at r1
      have c0 := (HC.out.keep hJ).cell (i := 0) rfl
      have c1 := (HC.out.keep hJ).cell (i := 1) rfl
      have c2 := (HC.out.keep hJ).cell (i := 2) rfl
      refine Vals.wpOp_run ho' (by unfold Region.wanted; simp only []; rw [Vals.yielded_of (d := 17) rfl hgd]; rfl) ?_
      clear hdep hfr ho' hdf hgd hcl
      go_simp
      exact hK _ _ (fun _ _ h => h) hJ (fun _ => rfl)
    | 14, ho, hd =>
      have ho' := ho
      simp only [List.getElem?_toArray, List.getElem?_cons_zero, List.getElem?_cons_succ, Option.some.injEq] at ho hd
      subst ho hd
      have hgd : a.eval (.tmp 17) = .bool false := (hdep ⟨8, .guard⟩ (by simp) rfl).2 17 rfl
      have g21 : ∃ a1_21 c1_21, a.eval (.tmp 21) = .agg #[.int .u8 5, .int .u8 0, .slice a1_21 (enc 1 2 ++ enc 12 2 ++ enc (wrap64 x0) 8).length c1_21] ∧ Reads W a1_21 (enc 1 2 ++ enc 12 2 ++ enc (wrap64 x0) 8).length (enc 1 2 ++ enc 12 2 ++ enc (wrap64 x0) 8) := (hdep ⟨12, .data⟩ (by simp) rfl).2 21 rfl
      rw [Vals.eval_tmp] at g21
      obtain ⟨a1_21, c1_21, r21, h21_0⟩ := g21
      have r22 : a.eval (.tmp 22) = .agg #[.int .u8 5, .int .u8 f, .slice p n c] := (hdep ⟨13, .data⟩ (by simp) rfl).2 22 rfl
      rw [Vals.eval_tmp] at r22
      refine Vals.wpOp_run ho' (by unfold Region.wanted; simp only []; rw [Vals.yielded_of (d := 17) rfl hgd]; rfl) ?_
      clear hdep hfr ho' hdf hgd hcl
      go_simp
      refine (rsame_any 5 0 5 f a1_21 p _ n _ c (enc 1 2 ++ enc 12 2 ++ enc (wrap64 x0) 8) zs W h21_0 (HRW.out W hJ) (((enc_byt _ _).append (enc_byt _ _)).append (enc_byt _ _)) hz (by simp) (by omega)).mono ?_
      rintro e w' ⟨rfl, hb3⟩
      exact hK _ _ (GTimeR5_mono hb3) (hJ.trans (hb3.mono hJ.size)) (fun _ => by show Value.bool _ = Value.bool _; first | rfl | rw [HBB.out])
    | 15, ho, hd =>
      have ho' := ho
      simp only [List.getElem?_toArray, List.getElem?_cons_zero, List.getElem?_cons_succ, Option.some.injEq] at ho hd
      subst ho hd
      have hgd : a.eval (.tmp 17) = .bool false := (hdep ⟨8, .guard⟩ (by simp) rfl).2 17 rfl
      have r23 : a.eval (.tmp 23) = .bool bb := (hdep ⟨14, .data⟩ (by simp) rfl).2 23 rfl
      rw [Vals.eval_tmp] at r23
      refine Vals.wpOp_run ho' (by unfold Region.wanted; simp only []; rw [Vals.yielded_of (d := 17) rfl hgd]; rfl) ?_
      clear hdep hfr ho' hdf hgd hcl
      go_simp
      exact hK _ _ (fun _ _ h => h) hJ (fun _ => rfl)
    | 16, ho, hd =>
      have ho' := ho
      simp only [List.getElem?_toArray, List.getElem?_cons_zero, List.getElem?_cons_succ, Option.some.injEq] at ho hd
      subst ho hd
      have r17 : a.eval (.tmp 17) = .bool false := (hdep ⟨8, .data⟩ (by simp) rfl).2 17 rfl
      rw [Vals.eval_tmp] at r17
      have r24 : a.eval (.tmp 24) = .bool (!bb) := (hdep ⟨15, .data⟩ (by simp) rfl).2 24 rfl
      rw [Vals.eval_tmp] at r24
      refine Vals.wpOp_run ho' rfl ?_
      clear hdep hfr ho' hdf hcl
      go_simp
      exact hK _ _ (fun _ _ h => h) hJ (fun _ => rfl)
    | i + 17, ho, hd => simp at ho
  case fin =>
    intro listed W fq hall hJ hG
    have q0 : fq 9 = .pointer (some ⟨w.heap.size, 0, none⟩) := hG 0 9 rfl
    have q1 : fq 10 = .int .u8 5 := hG 1 10 rfl
    have q2 : fq 11 = .bool true := hG 2 11 rfl
    have q3 : fq 12 = .bool true := hG 3 12 rfl
    have q4 : fq 13 = .pointer (some ⟨w.heap.size, 0, none⟩) := hG 4 13 rfl
    have q5 : fq 14 = .int .u8 5 := hG 5 14 rfl
    have q6 : fq 15 = .bool false := hG 6 15 rfl
    have q7 : fq 16 = .bool false := hG 7 16 rfl
    have q8 : fq 17 = .bool false := hG 8 17 rfl
    have q9 : fq 18 = .pointer (some ⟨w.heap.size, 0, none⟩) := hG 9 18 rfl
    have q10 : fq 19 = .int .u8 5 := hG 10 19 rfl
    have q11 : fq 20 = .int .i64 (wrap64 x0) := hG 11 20 rfl
    obtain ⟨a1_21, c1_21, q12, hq21_0⟩ : ∃ a1_21 c1_21, fq 21 = .agg #[.int .u8 5, .int .u8 0, .slice a1_21 (enc 1 2 ++ enc 12 2 ++ enc (wrap64 x0) 8).length c1_21] ∧ Reads W a1_21 (enc 1 2 ++ enc 12 2 ++ enc (wrap64 x0) 8).length (enc 1 2 ++ enc 12 2 ++ enc (wrap64 x0) 8) := hG 12 21 rfl
    have q13 : fq 22 = .agg #[.int .u8 5, .int .u8 f, .slice p n c] := hG 13 22 rfl
    have q14 : fq 23 = .bool bb := hG 14 23 rfl
    have q15 : fq 24 = .bool (!bb) := hG 15 24 rfl
    have q16 : fq 25 = .bool (!bb) := hG 16 25 rfl
    clear hG hall
    simp only [Vals.puts, Vals.pairs, List.filterMap_cons, List.filterMap_nil, id, List.map_cons, List.map_nil, List.foldl_cons, List.foldl_nil, q0, q1, q2, q3, q4, q5, q6, q7, q8, q9, q10, q11, q12, q13, q14, q15, q16]
    clear q0 q1 q2 q3 q4 q5 q6 q7 q8 q9 q10 q11 q12 q13 q14 q15 q16
    go_frame
    have HJ := Lib.hid (HBE.out.trans (hJ.mono HBE.out.size))
    clear hJ HRW HC HBE
    cases bb
    · go_wp2
      go_ret2
      exact ⟨.inr ⟨rfl, rfl⟩, HJ.out⟩
    · go_wp2
      go_ret2
      exact ⟨.inl ⟨rfl, rfl⟩, HJ.out⟩

set_option maxRecDepth 100000 in
set_option maxHeartbeats 1600000 in
theorem rgetTimeN (k f : Int) (p : Option Addr) (n c : Nat) (zs : List Int) (w : World) (hr : Reads w p n zs) (hz : Byt zs) (hc : n ≤ c) (hn : n ≤ 281474976) (hk4 : k ≠ 4) (hk5 : k ≠ 5) (x0 : Int) (hxx0 : natAt zs 4 8 = x0) :
    Calls Try.prog 40 #[.agg #[.int .u8 k, .int .u8 f, .slice p n c]] w fun e w' => Chose false (.int .i64 (wrap64 x0)) (.int .i64 0) e ∧ Below w.heap.size w w' := by
  have HNx0 := Lib.hid (show ∀ W, Reads W p n zs → Calls Try.prog 53 #[.slice p n c, .int .i64 4, .int .i64 8] W fun e w' => e = .returned (.int .u64 x0) ∧ Below W.heap.size W w' from fun W h => hxx0 ▸ numR_any p n c 4 8 zs W h hz hc (by omega) (by omega) rfl)
  obtain ⟨lox0, hix0⟩ : 0 ≤ x0 ∧ x0 < 18446744073709551616 := hxx0 ▸ natAt8 hz 4
  obtain ⟨wE, hwE⟩ : ∃ wE, w.alloc (.cells #[.int .u8 k, .int .u8 f, .slice p n c] 28) = wE := ⟨_, rfl⟩
  have hbE : Below w.heap.size w wE := by rw [← hwE]; exact chunkBelow w k f _
  have hsE : wE.heap.size = w.heap.size + 1 := by rw [← hwE]; simp
  have hcE : Arr wE w.heap.size 28 [.int .u8 k, .int .u8 f, .slice p n c] := by rw [← hwE]; exact chunkBox w k f _
  have e4 : (k == 4) = false := by simpa using hk4
  have e5 : (k == 5) = false := by simpa using hk5
  have f4 : (k != 4) = true := by simpa using hk4
  have f5 : (k != 5) = true := by simpa using hk5
  have HC0 := Lib.hid hcE
  have HB0 := Lib.hid hbE
  have HR0 := Lib.hid hr
  have c2 := hcE.cell (i := 2) rfl
  clear hcE hbE hr hxx0 hk4 hk5
  go_enter Try.func40, Try.ntmps40
  go_wp2_with fail
  refine (HNx0.out _ (HR0.out.below HB0.out)).mono ?_
  rintro e w1 ⟨rfl, hb1⟩
  have c0 := (HC0.out.keep hb1).cell (i := 0) rfl
  have HJ := Lib.hid (HB0.out.trans (hb1.mono HB0.out.size))
  clear hb1 HC0 HB0 HR0 HNx0 c2
  go_wp2_with fail
  go_quiet (fail)
  go_wp2
  go_ret2
  exact ⟨.inr ⟨rfl, rfl⟩, below_drewN HJ.out _⟩

end Go.Proofs.Ytlihcckgnnnekaa
