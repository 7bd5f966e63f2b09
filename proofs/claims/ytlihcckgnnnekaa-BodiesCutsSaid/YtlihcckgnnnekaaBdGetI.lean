/-
  Stage 9: GetInit, the program's and the reference's. Written by gengeti.py.
-/
import Derived.Test.YtlihcckgnnnekaaBdIni
import Derived.Test.YtlihcckgnnnekaaGoodL
namespace Go.Proofs.Ytlihcckgnnnekaa
open Go.RowKit
set_option linter.unusedVariables false
set_option linter.unusedSimpArgs false
set_option linter.unnecessarySimpa false

/-- What the operations of the drawn region leave behind. -/
def GIni (w wE : World) (k f x0 x1 x2 x3 x4 : Int) (p : Option Addr) (n c : Nat) (i : Nat) (v : Value) (W : World) : Prop := match i with | 0 => v = .pointer (some ⟨w.heap.size, 2, none⟩) | 1 => v = .slice p n c | 2 => v = .int .u64 x0 | 3 => v = .int .u32 x0 | 4 => v = .pointer (some ⟨w.heap.size, 2, none⟩) | 5 => v = .slice p n c | 6 => v = .int .u64 x1 | 7 => v = .int .u32 x1 | 8 => v = .pointer (some ⟨w.heap.size, 2, none⟩) | 9 => v = .slice p n c | 10 => v = .int .u64 x2 | 11 => v = .int .u16 x2 | 12 => v = .pointer (some ⟨w.heap.size, 2, none⟩) | 13 => v = .slice p n c | 14 => v = .int .u64 x3 | 15 => v = .int .u16 x3 | 16 => v = .pointer (some ⟨w.heap.size, 2, none⟩) | 17 => v = .slice p n c | 18 => v = .int .u64 x4 | 19 => v = .int .u32 x4 | 20 => v = .agg #[.int .u32 x0, .int .u32 x1, .int .u16 x2, .int .u16 x3, .int .u32 x4, .slice none 0 0] | 21 => ∃ gn, v = .pointer (some ⟨gn, 0, none⟩) ∧ wE.heap.size ≤ gn ∧ Arr W gn 43 [.int .u32 0, .int .u32 0, .int .u16 0, .int .u16 0, .int .u32 0, .slice none 0 0] | _ => True
theorem GIni_mono {w wE : World} {k f x0 x1 x2 x3 x4 : Int} {p : Option Addr} {n c : Nat} {W W' : World} (hb : Below W.heap.size W W') (j : Nat) (x : Value) (h : GIni w wE k f x0 x1 x2 x3 x4 p n c j x W) : GIni w wE k f x0 x1 x2 x3 x4 p n c j x W' := by
  unfold GIni at h ⊢
  split at h <;> try exact h
  · obtain ⟨gn, e0, h0_0, h0_1⟩ := h
    exact ⟨gn, e0, h0_0, h0_1.keep hb⟩

/-- What the operations of the drawn region leave behind. -/
def GInj (w v6 : World) (gn : Nat) (k f x0 x1 x2 x3 x4 y0 y1 y2 y3 y4 er : Int) (p : Option Addr) (n c : Nat) (a5 : Option Addr) (cl c5 : Nat) (ya : Option Addr) (yn yc : Nat) (vv : Bool) (i : Nat) (v : Value) (W : World) : Prop := match i with | 0 => v = .agg #[.int .u8 k, .int .u8 f, .slice p n c] | 1 => v = .agg #[.int .u32 x0, .int .u32 x1, .int .u16 x2, .int .u16 x3, .int .u32 x4, .slice a5 cl c5] | 2 => v = .pointer (some ⟨w.heap.size, 0, none⟩) | 3 => v = .int .u8 k | 4 => v = .agg #[.int .u32 x0, .int .u32 x1, .int .u16 x2, .int .u16 x3, .int .u32 x4, .slice a5 cl c5] | 5 => v = .bool vv | 6 => v = .func (.func 61) #[] #[.pointer (some ⟨w.heap.size, 0, none⟩)] | 7 => v = .tuple #[.agg #[.int .u32 y0, .int .u32 y1, .int .u16 y2, .int .u16 y3, .int .u32 y4, .slice ya yn yc], .int .i64 er] | 8 => v = .agg #[.int .u32 y0, .int .u32 y1, .int .u16 y2, .int .u16 y3, .int .u32 y4, .slice ya yn yc] | 9 => v = .int .i64 er | 11 => v = .int .i64 er | _ => True
theorem GInj_mono {w v6 : World} {gn : Nat} {k f x0 x1 x2 x3 x4 y0 y1 y2 y3 y4 er : Int} {p : Option Addr} {n c : Nat} {a5 : Option Addr} {cl c5 : Nat} {ya : Option Addr} {yn yc : Nat} {vv : Bool} {W W' : World} (hb : Below W.heap.size W W') (j : Nat) (x : Value) (h : GInj w v6 gn k f x0 x1 x2 x3 x4 y0 y1 y2 y3 y4 er p n c a5 cl c5 ya yn yc vv j x W) : GInj w v6 gn k f x0 x1 x2 x3 x4 y0 y1 y2 y3 y4 er p n c a5 cl c5 ya yn yc vv j x W' := by
  unfold GInj at h ⊢
  split at h <;> try exact h
theorem GInj_any {w v6 : World} {gn : Nat} {k f x0 x1 x2 x3 x4 y0 y1 y2 y3 y4 er : Int} {p : Option Addr} {n c : Nat} {a5 : Option Addr} {cl c5 : Nat} {ya : Option Addr} {yn yc : Nat} {vv : Bool} {W W' : World} (j : Nat) (x : Value) (h : GInj w v6 gn k f x0 x1 x2 x3 x4 y0 y1 y2 y3 y4 er p n c a5 cl c5 ya yn yc vv j x W) : GInj w v6 gn k f x0 x1 x2 x3 x4 y0 y1 y2 y3 y4 er p n c a5 cl c5 ya yn yc vv j x W' := by
  unfold GInj at h ⊢
  split at h <;> exact h

set_option maxRecDepth 100000 in
set_option maxHeartbeats 1600000 in
theorem pgetInit_ack (f : Int) (p : Option Addr) (n c : Nat) (zs : List Int) (w : World) (hr : Reads w p n zs) (hz : Byt zs) (hc : n ≤ c) (hn : n ≤ 281474976) (x0 : Int) (hxx0 : natAt zs 0 4 = x0) (x1 : Int) (hxx1 : natAt zs 4 4 = x1) (x2 : Int) (hxx2 : natAt zs 8 2 = x2) (x3 : Int) (hxx3 : natAt zs 10 2 = x3) (x4 : Int) (hxx4 : natAt zs 12 4 = x4) (x5 : Int) (hxx5 : natAt zs 18 2 = x5) :
    Calls Try.prog 24 #[.agg #[.int .u8 2, .int .u8 f, .slice p n c]] w fun e w' => ∃ a1 c1, Chose (initOk 2 x0 x2 x3 (ckOf zs x5).length && eqC 2 f zs 2 0 (initB 2 x0 x1 x2 x3 x4 (ckOf zs x5))) (.agg #[.int .u32 x0, .int .u32 x1, .int .u16 x2, .int .u16 x3, .int .u32 x4, .slice a1 ((ckOf zs x5).length) c1]) (.agg #[.int .u32 0, .int .u32 0, .int .u16 0, .int .u16 0, .int .u32 0, .slice none 0 0]) e ∧ Below w.heap.size w w' ∧ Row8 w.heap.size w' a1 ((ckOf zs x5).length) c1 (ckOf zs x5) := by
  have HNx0 := Lib.hid (show ∀ W, Reads W p n zs → Calls Try.prog 50 #[.slice p n c, .int .i64 0, .int .i64 4] W fun e w' => e = .returned (.int .u64 x0) ∧ W = w' from fun W h => hxx0 ▸ num_any p n c 0 4 zs W h hz (by omega) (by omega) rfl)
  obtain ⟨lox0, hix0⟩ : 0 ≤ x0 ∧ x0 < 4294967296 := hxx0 ▸ natAt4 hz 0
  have HNx1 := Lib.hid (show ∀ W, Reads W p n zs → Calls Try.prog 50 #[.slice p n c, .int .i64 4, .int .i64 4] W fun e w' => e = .returned (.int .u64 x1) ∧ W = w' from fun W h => hxx1 ▸ num_any p n c 4 4 zs W h hz (by omega) (by omega) rfl)
  obtain ⟨lox1, hix1⟩ : 0 ≤ x1 ∧ x1 < 4294967296 := hxx1 ▸ natAt4 hz 4
  have HNx2 := Lib.hid (show ∀ W, Reads W p n zs → Calls Try.prog 50 #[.slice p n c, .int .i64 8, .int .i64 2] W fun e w' => e = .returned (.int .u64 x2) ∧ W = w' from fun W h => hxx2 ▸ num_any p n c 8 2 zs W h hz (by omega) (by omega) rfl)
  obtain ⟨lox2, hix2⟩ : 0 ≤ x2 ∧ x2 < 65536 := hxx2 ▸ natAt2 hz 8
  have HNx3 := Lib.hid (show ∀ W, Reads W p n zs → Calls Try.prog 50 #[.slice p n c, .int .i64 10, .int .i64 2] W fun e w' => e = .returned (.int .u64 x3) ∧ W = w' from fun W h => hxx3 ▸ num_any p n c 10 2 zs W h hz (by omega) (by omega) rfl)
  obtain ⟨lox3, hix3⟩ : 0 ≤ x3 ∧ x3 < 65536 := hxx3 ▸ natAt2 hz 10
  have HNx4 := Lib.hid (show ∀ W, Reads W p n zs → Calls Try.prog 50 #[.slice p n c, .int .i64 12, .int .i64 4] W fun e w' => e = .returned (.int .u64 x4) ∧ W = w' from fun W h => hxx4 ▸ num_any p n c 12 4 zs W h hz (by omega) (by omega) rfl)
  obtain ⟨lox4, hix4⟩ : 0 ≤ x4 ∧ x4 < 4294967296 := hxx4 ▸ natAt4 hz 12
  have HNx5 := Lib.hid (show ∀ W, Reads W p n zs → Calls Try.prog 50 #[.slice p n c, .int .i64 18, .int .i64 2] W fun e w' => e = .returned (.int .u64 x5) ∧ W = w' from fun W h => hxx5 ▸ num_any p n c 18 2 zs W h hz (by omega) (by omega) rfl)
  obtain ⟨lox5, hix5⟩ : 0 ≤ x5 ∧ x5 < 65536 := hxx5 ▸ natAt2 hz 18
  obtain ⟨wa, hwa⟩ : ∃ wa, w.alloc (.cells #[.int .u8 2, .int .u8 f, .slice p n c] 28) = wa := ⟨_, rfl⟩
  have hba : Below w.heap.size w wa := by rw [← hwa]; exact chunkBelow w 2 f _
  have hsa : wa.heap.size = w.heap.size + 1 := by rw [← hwa]; simp
  have hca : Arr wa w.heap.size 28 [.int .u8 2, .int .u8 f, .slice p n c] := by rw [← hwa]; exact chunkBox w 2 f _
  obtain ⟨wE, hwE⟩ : ∃ wE, wa.alloc (.cells #[.int .u32 0, .int .u32 0, .int .u16 0, .int .u16 0, .int .u32 0, .slice none 0 0] 43) = wE := ⟨_, rfl⟩
  have hbE0 : Below wa.heap.size wa wE := by rw [← hwE]; exact (Below.refl _ _).alloc (Nat.le_refl _) _
  have hsE : wE.heap.size = w.heap.size + 2 := by rw [← hwE]; simp; omega
  have hzE : Arr wE (w.heap.size + 1) 43 [.int .u32 0, .int .u32 0, .int .u16 0, .int .u16 0, .int .u32 0, .slice none 0 0] := by rw [← hwE, ← hsa]; exact arr_new _ _ _
  have hcE := hca.keep hbE0
  have hbE := hba.trans (hbE0.mono hba.size)
  have hr2 := hr.below hbE
  have HRW := Lib.hid (show ∀ W, Below wE.heap.size wE W → Reads W p n zs from fun W h => hr2.below h)
  have HC := Lib.hid hcE
  have HZ := Lib.hid hzE
  have HBE := Lib.hid (And.intro hbE hsE)
  clear hba hca hbE0 hzE hcE hbE hr hr2 hxx0 hxx1 hxx2 hxx3 hxx4 hxx5
  go_enter Try.func24, Try.ntmps24
  go_wp2_with fail
  refine wp_region_any (by kernel_rfl) ?_
  refine Vals.wpAny_goodLast (GIni w wE 2 f x0 x1 x2 x3 x4 p n c) (fun W => Below wE.heap.size wE W) [some 6, some 7, some 8, some 9, some 10, some 11, some 12, some 13, some 14, some 15, some 16, some 17, some 18, some 19, some 20, some 21, some 22, some 23, some 24, some 25, some 26, some 4, none] 22 53 _ _ rfl (by kernel_rfl) (by kernel_rfl) (by kernel_rfl) (by decide) rfl ?step ?fin (Below.refl _ _).drew
  case step =>
    intro i o d ho hd hiN a W hJ hdf hdep hfr K hK
    match i, ho, hd with
    | 0, ho, hd =>
      have ho' := ho
      simp only [List.getElem?_toArray, List.getElem?_cons_zero, Option.some.injEq] at ho hd
      subst ho hd
      have r1 : a.eval (.tmp 1) = .pointer (some ⟨w.heap.size, 0, none⟩) := hfr 1 (by decide)
      rw [Vals.eval_tmp] at r1
      refine Vals.wpOp_run ho' rfl ?_
      clear hdep hfr ho' hdf
      go_simp
      exact hK _ _ (fun _ _ h => h) hJ (fun _ => rfl)
    | 1, ho, hd =>
      have ho' := ho
      simp only [List.getElem?_toArray, List.getElem?_cons_zero, List.getElem?_cons_succ, Option.some.injEq] at ho hd
      subst ho hd
      have r6 : a.eval (.tmp 6) = .pointer (some ⟨w.heap.size, 2, none⟩) := hdep ⟨0, .data⟩ (by simp) rfl 6 rfl
      rw [Vals.eval_tmp] at r6
      have c0 := (HC.out.keep hJ).cell (i := 2) rfl
      refine Vals.wpOp_run ho' rfl ?_
      clear hdep hfr ho' hdf
      go_simp
      exact hK _ _ (fun _ _ h => h) hJ (fun _ => rfl)
    | 2, ho, hd =>
      have ho' := ho
      simp only [List.getElem?_toArray, List.getElem?_cons_zero, List.getElem?_cons_succ, Option.some.injEq] at ho hd
      subst ho hd
      have r7 : a.eval (.tmp 7) = .slice p n c := hdep ⟨1, .data⟩ (by simp) rfl 7 rfl
      rw [Vals.eval_tmp] at r7
      refine Vals.wpOp_run ho' rfl ?_
      clear hdep hfr ho' hdf
      go_simp
      refine (HNx0.out W (HRW.out W hJ)).mono ?_
      rintro e w' ⟨rfl, rfl⟩
      exact hK _ _ (fun _ _ h => h) hJ (fun _ => rfl)
    | 3, ho, hd =>
      have ho' := ho
      simp only [List.getElem?_toArray, List.getElem?_cons_zero, List.getElem?_cons_succ, Option.some.injEq] at ho hd
      subst ho hd
      have r8 : a.eval (.tmp 8) = .int .u64 x0 := hdep ⟨2, .data⟩ (by simp) rfl 8 rfl
      rw [Vals.eval_tmp] at r8
      refine Vals.wpOp_run ho' rfl ?_
      clear hdep hfr ho' hdf
      go_simp
      exact hK _ _ (fun _ _ h => h) hJ (fun _ => (by first | rfl | exact congrArg (Value.int _) (Int.emod_eq_of_lt (by assumption) (by assumption))))
    | 4, ho, hd =>
      have ho' := ho
      simp only [List.getElem?_toArray, List.getElem?_cons_zero, List.getElem?_cons_succ, Option.some.injEq] at ho hd
      subst ho hd
      have r1 : a.eval (.tmp 1) = .pointer (some ⟨w.heap.size, 0, none⟩) := hfr 1 (by decide)
      rw [Vals.eval_tmp] at r1
      refine Vals.wpOp_run ho' rfl ?_
      clear hdep hfr ho' hdf
      go_simp
      exact hK _ _ (fun _ _ h => h) hJ (fun _ => rfl)
    | 5, ho, hd =>
      have ho' := ho
      simp only [List.getElem?_toArray, List.getElem?_cons_zero, List.getElem?_cons_succ, Option.some.injEq] at ho hd
      subst ho hd
      have r10 : a.eval (.tmp 10) = .pointer (some ⟨w.heap.size, 2, none⟩) := hdep ⟨4, .data⟩ (by simp) rfl 10 rfl
      rw [Vals.eval_tmp] at r10
      have c0 := (HC.out.keep hJ).cell (i := 2) rfl
      refine Vals.wpOp_run ho' rfl ?_
      clear hdep hfr ho' hdf
      go_simp
      exact hK _ _ (fun _ _ h => h) hJ (fun _ => rfl)
    | 6, ho, hd =>
      have ho' := ho
      simp only [List.getElem?_toArray, List.getElem?_cons_zero, List.getElem?_cons_succ, Option.some.injEq] at ho hd
      subst ho hd
      have r11 : a.eval (.tmp 11) = .slice p n c := hdep ⟨5, .data⟩ (by simp) rfl 11 rfl
      rw [Vals.eval_tmp] at r11
      refine Vals.wpOp_run ho' rfl ?_
      clear hdep hfr ho' hdf
      go_simp
      refine (HNx1.out W (HRW.out W hJ)).mono ?_
      rintro e w' ⟨rfl, rfl⟩
      exact hK _ _ (fun _ _ h => h) hJ (fun _ => rfl)
    | 7, ho, hd =>
      have ho' := ho
      simp only [List.getElem?_toArray, List.getElem?_cons_zero, List.getElem?_cons_succ, Option.some.injEq] at ho hd
      subst ho hd
      have r12 : a.eval (.tmp 12) = .int .u64 x1 := hdep ⟨6, .data⟩ (by simp) rfl 12 rfl
      rw [Vals.eval_tmp] at r12
      refine Vals.wpOp_run ho' rfl ?_
      clear hdep hfr ho' hdf
      go_simp
      exact hK _ _ (fun _ _ h => h) hJ (fun _ => (by first | rfl | exact congrArg (Value.int _) (Int.emod_eq_of_lt (by assumption) (by assumption))))
    | 8, ho, hd =>
      have ho' := ho
      simp only [List.getElem?_toArray, List.getElem?_cons_zero, List.getElem?_cons_succ, Option.some.injEq] at ho hd
      subst ho hd
      have r1 : a.eval (.tmp 1) = .pointer (some ⟨w.heap.size, 0, none⟩) := hfr 1 (by decide)
      rw [Vals.eval_tmp] at r1
      refine Vals.wpOp_run ho' rfl ?_
      clear hdep hfr ho' hdf
      go_simp
      exact hK _ _ (fun _ _ h => h) hJ (fun _ => rfl)
    | 9, ho, hd =>
      have ho' := ho
      simp only [List.getElem?_toArray, List.getElem?_cons_zero, List.getElem?_cons_succ, Option.some.injEq] at ho hd
      subst ho hd
      have r14 : a.eval (.tmp 14) = .pointer (some ⟨w.heap.size, 2, none⟩) := hdep ⟨8, .data⟩ (by simp) rfl 14 rfl
      rw [Vals.eval_tmp] at r14
      have c0 := (HC.out.keep hJ).cell (i := 2) rfl
      refine Vals.wpOp_run ho' rfl ?_
      clear hdep hfr ho' hdf
      go_simp
      exact hK _ _ (fun _ _ h => h) hJ (fun _ => rfl)
    | 10, ho, hd =>
      have ho' := ho
      simp only [List.getElem?_toArray, List.getElem?_cons_zero, List.getElem?_cons_succ, Option.some.injEq] at ho hd
      subst ho hd
      have r15 : a.eval (.tmp 15) = .slice p n c := hdep ⟨9, .data⟩ (by simp) rfl 15 rfl
      rw [Vals.eval_tmp] at r15
      refine Vals.wpOp_run ho' rfl ?_
      clear hdep hfr ho' hdf
      go_simp
      refine (HNx2.out W (HRW.out W hJ)).mono ?_
      rintro e w' ⟨rfl, rfl⟩
      exact hK _ _ (fun _ _ h => h) hJ (fun _ => rfl)
    | 11, ho, hd =>
      have ho' := ho
      simp only [List.getElem?_toArray, List.getElem?_cons_zero, List.getElem?_cons_succ, Option.some.injEq] at ho hd
      subst ho hd
      have r16 : a.eval (.tmp 16) = .int .u64 x2 := hdep ⟨10, .data⟩ (by simp) rfl 16 rfl
      rw [Vals.eval_tmp] at r16
      refine Vals.wpOp_run ho' rfl ?_
      clear hdep hfr ho' hdf
      go_simp
      exact hK _ _ (fun _ _ h => h) hJ (fun _ => (by first | rfl | exact congrArg (Value.int _) (Int.emod_eq_of_lt (by assumption) (by assumption))))
    | 12, ho, hd =>
      have ho' := ho
      simp only [List.getElem?_toArray, List.getElem?_cons_zero, List.getElem?_cons_succ, Option.some.injEq] at ho hd
      subst ho hd
      have r1 : a.eval (.tmp 1) = .pointer (some ⟨w.heap.size, 0, none⟩) := hfr 1 (by decide)
      rw [Vals.eval_tmp] at r1
      refine Vals.wpOp_run ho' rfl ?_
      clear hdep hfr ho' hdf
      go_simp
      exact hK _ _ (fun _ _ h => h) hJ (fun _ => rfl)
    | 13, ho, hd =>
      have ho' := ho
      simp only [List.getElem?_toArray, List.getElem?_cons_zero, List.getElem?_cons_succ, Option.some.injEq] at ho hd
      subst ho hd
      have r18 : a.eval (.tmp 18) = .pointer (some ⟨w.heap.size, 2, none⟩) := hdep ⟨12, .data⟩ (by simp) rfl 18 rfl
      rw [Vals.eval_tmp] at r18
      have c0 := (HC.out.keep hJ).cell (i := 2) rfl
      refine Vals.wpOp_run ho' rfl ?_
      clear hdep hfr ho' hdf
      go_simp
      exact hK _ _ (fun _ _ h => h) hJ (fun _ => rfl)
    | 14, ho, hd =>
      have ho' := ho
      simp only [List.getElem?_toArray, List.getElem?_cons_zero, List.getElem?_cons_succ, Option.some.injEq] at ho hd
      subst ho hd
      have r19 : a.eval (.tmp 19) = .slice p n c := hdep ⟨13, .data⟩ (by simp) rfl 19 rfl
      rw [Vals.eval_tmp] at r19
      refine Vals.wpOp_run ho' rfl ?_
      clear hdep hfr ho' hdf
      go_simp
      refine (HNx3.out W (HRW.out W hJ)).mono ?_
      rintro e w' ⟨rfl, rfl⟩
      exact hK _ _ (fun _ _ h => h) hJ (fun _ => rfl)
    | 15, ho, hd =>
      have ho' := ho
      simp only [List.getElem?_toArray, List.getElem?_cons_zero, List.getElem?_cons_succ, Option.some.injEq] at ho hd
      subst ho hd
      have r20 : a.eval (.tmp 20) = .int .u64 x3 := hdep ⟨14, .data⟩ (by simp) rfl 20 rfl
      rw [Vals.eval_tmp] at r20
      refine Vals.wpOp_run ho' rfl ?_
      clear hdep hfr ho' hdf
      go_simp
      exact hK _ _ (fun _ _ h => h) hJ (fun _ => (by first | rfl | exact congrArg (Value.int _) (Int.emod_eq_of_lt (by assumption) (by assumption))))
    | 16, ho, hd =>
      have ho' := ho
      simp only [List.getElem?_toArray, List.getElem?_cons_zero, List.getElem?_cons_succ, Option.some.injEq] at ho hd
      subst ho hd
      have r1 : a.eval (.tmp 1) = .pointer (some ⟨w.heap.size, 0, none⟩) := hfr 1 (by decide)
      rw [Vals.eval_tmp] at r1
      refine Vals.wpOp_run ho' rfl ?_
      clear hdep hfr ho' hdf
      go_simp
      exact hK _ _ (fun _ _ h => h) hJ (fun _ => rfl)
    | 17, ho, hd =>
      have ho' := ho
      simp only [List.getElem?_toArray, List.getElem?_cons_zero, List.getElem?_cons_succ, Option.some.injEq] at ho hd
      subst ho hd
      have r22 : a.eval (.tmp 22) = .pointer (some ⟨w.heap.size, 2, none⟩) := hdep ⟨16, .data⟩ (by simp) rfl 22 rfl
      rw [Vals.eval_tmp] at r22
      have c0 := (HC.out.keep hJ).cell (i := 2) rfl
      refine Vals.wpOp_run ho' rfl ?_
      clear hdep hfr ho' hdf
      go_simp
      exact hK _ _ (fun _ _ h => h) hJ (fun _ => rfl)
    | 18, ho, hd =>
      have ho' := ho
      simp only [List.getElem?_toArray, List.getElem?_cons_zero, List.getElem?_cons_succ, Option.some.injEq] at ho hd
      subst ho hd
      have r23 : a.eval (.tmp 23) = .slice p n c := hdep ⟨17, .data⟩ (by simp) rfl 23 rfl
      rw [Vals.eval_tmp] at r23
      refine Vals.wpOp_run ho' rfl ?_
      clear hdep hfr ho' hdf
      go_simp
      refine (HNx4.out W (HRW.out W hJ)).mono ?_
      rintro e w' ⟨rfl, rfl⟩
      exact hK _ _ (fun _ _ h => h) hJ (fun _ => rfl)
    | 19, ho, hd =>
      have ho' := ho
      simp only [List.getElem?_toArray, List.getElem?_cons_zero, List.getElem?_cons_succ, Option.some.injEq] at ho hd
      subst ho hd
      have r24 : a.eval (.tmp 24) = .int .u64 x4 := hdep ⟨18, .data⟩ (by simp) rfl 24 rfl
      rw [Vals.eval_tmp] at r24
      refine Vals.wpOp_run ho' rfl ?_
      clear hdep hfr ho' hdf
      go_simp
      exact hK _ _ (fun _ _ h => h) hJ (fun _ => (by first | rfl | exact congrArg (Value.int _) (Int.emod_eq_of_lt (by assumption) (by assumption))))
    | 20, ho, hd =>
      have ho' := ho
      simp only [List.getElem?_toArray, List.getElem?_cons_zero, List.getElem?_cons_succ, Option.some.injEq] at ho hd
      subst ho hd
      have r9 : a.eval (.tmp 9) = .int .u32 x0 := hdep ⟨3, .data⟩ (by simp) rfl 9 rfl
      rw [Vals.eval_tmp] at r9
      have r13 : a.eval (.tmp 13) = .int .u32 x1 := hdep ⟨7, .data⟩ (by simp) rfl 13 rfl
      rw [Vals.eval_tmp] at r13
      have r17 : a.eval (.tmp 17) = .int .u16 x2 := hdep ⟨11, .data⟩ (by simp) rfl 17 rfl
      rw [Vals.eval_tmp] at r17
      have r21 : a.eval (.tmp 21) = .int .u16 x3 := hdep ⟨15, .data⟩ (by simp) rfl 21 rfl
      rw [Vals.eval_tmp] at r21
      have r25 : a.eval (.tmp 25) = .int .u32 x4 := hdep ⟨19, .data⟩ (by simp) rfl 25 rfl
      rw [Vals.eval_tmp] at r25
      refine Vals.wpOp_run ho' rfl ?_
      clear hdep hfr ho' hdf
      go_simp
      exact hK _ _ (fun _ _ h => h) hJ (fun _ => rfl)
    | 21, ho, hd =>
      have ho' := ho
      simp only [List.getElem?_toArray, List.getElem?_cons_zero, List.getElem?_cons_succ, Option.some.injEq] at ho hd
      subst ho hd
      refine Vals.wpOp_run ho' rfl ?_
      clear hdep hfr ho' hdf
      go_simp
      have hb3 : Below W.heap.size W (W.alloc (.cells #[.int .u32 0, .int .u32 0, .int .u16 0, .int .u16 0, .int .u32 0, .slice none 0 0] 43)) := (Below.refl _ _).alloc (Nat.le_refl _) _
      exact hK _ _ (GIni_mono hb3) (hJ.trans (hb3.mono hJ.size)) (fun _ => ⟨_, rfl, hJ.size, arr_new _ _ _⟩)
    | i + 22, ho, hd => omega
  case fin =>
    intro W fq hJ hG
    have q0 : fq 6 = .pointer (some ⟨w.heap.size, 2, none⟩) := hG 0 6 rfl
    have q1 : fq 7 = .slice p n c := hG 1 7 rfl
    have q2 : fq 8 = .int .u64 x0 := hG 2 8 rfl
    have q3 : fq 9 = .int .u32 x0 := hG 3 9 rfl
    have q4 : fq 10 = .pointer (some ⟨w.heap.size, 2, none⟩) := hG 4 10 rfl
    have q5 : fq 11 = .slice p n c := hG 5 11 rfl
    have q6 : fq 12 = .int .u64 x1 := hG 6 12 rfl
    have q7 : fq 13 = .int .u32 x1 := hG 7 13 rfl
    have q8 : fq 14 = .pointer (some ⟨w.heap.size, 2, none⟩) := hG 8 14 rfl
    have q9 : fq 15 = .slice p n c := hG 9 15 rfl
    have q10 : fq 16 = .int .u64 x2 := hG 10 16 rfl
    have q11 : fq 17 = .int .u16 x2 := hG 11 17 rfl
    have q12 : fq 18 = .pointer (some ⟨w.heap.size, 2, none⟩) := hG 12 18 rfl
    have q13 : fq 19 = .slice p n c := hG 13 19 rfl
    have q14 : fq 20 = .int .u64 x3 := hG 14 20 rfl
    have q15 : fq 21 = .int .u16 x3 := hG 15 21 rfl
    have q16 : fq 22 = .pointer (some ⟨w.heap.size, 2, none⟩) := hG 16 22 rfl
    have q17 : fq 23 = .slice p n c := hG 17 23 rfl
    have q18 : fq 24 = .int .u64 x4 := hG 18 24 rfl
    have q19 : fq 25 = .int .u32 x4 := hG 19 25 rfl
    have q20 : fq 26 = .agg #[.int .u32 x0, .int .u32 x1, .int .u16 x2, .int .u16 x3, .int .u32 x4, .slice none 0 0] := hG 20 26 rfl
    obtain ⟨gn_4, q21, hq4_0, hq4_1⟩ : ∃ gn_4, fq 4 = .pointer (some ⟨gn_4, 0, none⟩) ∧ wE.heap.size ≤ gn_4 ∧ Arr W gn_4 43 [.int .u32 0, .int .u32 0, .int .u16 0, .int .u16 0, .int .u32 0, .slice none 0 0] := hG 21 4 rfl
    clear hG
    refine Vals.wpOp_run rfl rfl ?_
    simp only [Vals.puts, Vals.pairs, List.filterMap_cons, List.filterMap_nil, id, List.map_cons, List.map_nil, List.foldl_cons, List.foldl_nil, q0, q1, q2, q3, q4, q5, q6, q7, q8, q9, q10, q11, q12, q13, q14, q15, q16, q17, q18, q19, q20, q21]
    clear q0 q1 q2 q3 q4 q5 q6 q7 q8 q9 q10 q11 q12 q13 q14 q15 q16 q17 q18 q19 q20 q21
    go_frame
    obtain ⟨W4, hW4⟩ : ∃ x, ((((((W.setCell ⟨gn_4, 0, none⟩ (.int .u32 x0)).setCell ⟨gn_4, 1, none⟩ (.int .u32 x1)).setCell ⟨gn_4, 2, none⟩ (.int .u16 x2)).setCell ⟨gn_4, 3, none⟩ (.int .u16 x3)).setCell ⟨gn_4, 4, none⟩ (.int .u32 x4)).setCell ⟨gn_4, 5, none⟩ (.slice none 0 0)) = x := ⟨_, rfl⟩
    have hA4 : Arr _ gn_4 43 [.int .u32 x0, .int .u32 x1, .int .u16 x2, .int .u16 x3, .int .u32 x4, .slice none 0 0] := ((((((hq4_1.set 0 (.int .u32 x0)).set 1 (.int .u32 x1)).set 2 (.int .u16 x2)).set 3 (.int .u16 x3)).set 4 (.int .u32 x4)).set 5 (.slice none 0 0))
    have hB4 := (((((((hJ : Below wE.heap.size wE W).setCell (p := ⟨gn_4, 0, none⟩) hq4_0 (.int .u32 x0)).setCell (p := ⟨gn_4, 1, none⟩) hq4_0 (.int .u32 x1)).setCell (p := ⟨gn_4, 2, none⟩) hq4_0 (.int .u16 x2)).setCell (p := ⟨gn_4, 3, none⟩) hq4_0 (.int .u16 x3)).setCell (p := ⟨gn_4, 4, none⟩) hq4_0 (.int .u32 x4)).setCell (p := ⟨gn_4, 5, none⟩) hq4_0 (.slice none 0 0))
    rw [hW4] at hA4 hB4
    have fr0 := hq4_1.free 0
    have fr1 := hq4_1.free 1
    have fr2 := hq4_1.free 2
    have fr3 := hq4_1.free 3
    have fr4 := hq4_1.free 4
    have fr5 := hq4_1.free 5
    have y0 := hq4_1.cell (i := 0) rfl
    have y1 := hq4_1.cell (i := 1) rfl
    have y2 := hq4_1.cell (i := 2) rfl
    have y3 := hq4_1.cell (i := 3) rfl
    have y4 := hq4_1.cell (i := 4) rfl
    have y5 := hq4_1.cell (i := 5) rfl
    have HA4 := Lib.hid hA4
    have HB4 := Lib.hid hB4
    have HGN := Lib.hid hq4_0
    clear hJ hq4_1 hq4_0 hA4 hB4
    go_simp
    have cc0 := (HC.out.keep HB4.out).cell (i := 0) rfl
    have cc1 := (HC.out.keep HB4.out).cell (i := 1) rfl
    have cc2 := (HC.out.keep HB4.out).cell (i := 2) rfl
    clear fr0 fr1 fr2 fr3 fr4 fr5 y0 y1 y2 y3 y4 y5
    have HCUT := Lib.hid (cut20 p n c zs x5 hix5 W4 (HRW.out W4 HB4.out) hc hn lox5)
    have hl5 : x5 ≤ 65535 := by omega
    go_wp2_with fail
    refine (HNx5.out _ (HRW.out W4 HB4.out)).mono ?_
    rintro e w' ⟨rfl, rfl⟩
    go_wp2_with fail
    refine HCUT.out.mono ?_
    rintro e w5 ⟨a5, c5, b5, rfl, hb5, hr5⟩
    obtain ⟨ck, hck⟩ : ∃ ck, ck = ckOf zs x5 := ⟨_, rfl⟩
    have hckb : Byt ck := by rw [hck]; exact ckOf_byt hz x5
    have hckl : ck.length ≤ n := by rw [hck, ← (HRW.out W4 HB4.out).1]; exact ckOf_len zs x5
    rw [← hck] at hr5 ⊢
    obtain ⟨cl, hcl0⟩ : ∃ cl, cl = ck.length := ⟨_, rfl⟩
    rw [← hcl0] at hr5 hckl ⊢
    have hA5 := HA4.out.keep hb5
    have hB5 := HB4.out.trans (hb5.mono HB4.out.size)
    obtain ⟨v6, hv6⟩ : ∃ x, w5.setCell ⟨gn_4, 5, none⟩ (.slice a5 cl c5) = x := ⟨_, rfl⟩
    have hA6 : Arr _ gn_4 43 [.int .u32 x0, .int .u32 x1, .int .u16 x2, .int .u16 x3, .int .u32 x4, .slice a5 cl c5] := hA5.set 5 (.slice a5 cl c5)
    have hB6 := hB5.setCell (p := ⟨gn_4, 5, none⟩) HGN.out (.slice a5 cl c5)
    have hr6 := (hr5.setAt hA5 (by decide) 5 (.slice a5 cl c5)).lower (Nat.le_trans HBE.out.1.size HB4.out.size)
    rw [hv6] at hA6 hB6 hr6
    have fr5 := hA5.free 5
    have y5 := hA5.cell (i := 5) rfl
    have HC6 := Lib.hid (HC.out.keep hB6)
    have HZ6 := Lib.hid (HZ.out.keep hB6)
    have HA6 := Lib.hid hA6
    have HR6 := Lib.hid hr6
    have HRW6 := Lib.hid (HRW.out v6 hB6)
    have HBV := Lib.hid (HBE.out.1.trans (hB6.mono HBE.out.1.size))
    obtain ⟨vv, hvv⟩ : ∃ vv, vv = initOk 2 x0 x2 x3 cl := ⟨_, rfl⟩
    have HVV := Lib.hid hvv
    obtain ⟨bb, hbb⟩ : ∃ bb, bb = (vv && eqC 2 f zs 2 0 (initB 2 x0 x1 x2 x3 x4 ck)) := ⟨_, rfl⟩
    have HBB := Lib.hid hbb
    obtain ⟨y0, hy0⟩ : ∃ y, y = (if bb = true then x0 else 0) := ⟨_, rfl⟩
    obtain ⟨y1, hy1⟩ : ∃ y, y = (if bb = true then x1 else 0) := ⟨_, rfl⟩
    obtain ⟨y2, hy2⟩ : ∃ y, y = (if bb = true then x2 else 0) := ⟨_, rfl⟩
    obtain ⟨y3, hy3⟩ : ∃ y, y = (if bb = true then x3 else 0) := ⟨_, rfl⟩
    obtain ⟨y4, hy4⟩ : ∃ y, y = (if bb = true then x4 else 0) := ⟨_, rfl⟩
    obtain ⟨ya, hya⟩ : ∃ y, y = (if bb = true then a5 else none) := ⟨_, rfl⟩
    obtain ⟨yn, hyn⟩ : ∃ y, y = (if bb = true then cl else 0) := ⟨_, rfl⟩
    obtain ⟨yc, hyc⟩ : ∃ y, y = (if bb = true then c5 else 0) := ⟨_, rfl⟩
    obtain ⟨er, her⟩ : ∃ y : Int, y = (if bb = true then 0 else 7) := ⟨_, rfl⟩
    have HCK := Lib.hid (show ∀ W, Below v6.heap.size v6 W → Calls Try.prog 59 #[.agg #[.int .u8 2, .int .u8 f, .slice p n c], .agg #[.int .u32 x0, .int .u32 x1, .int .u16 x2, .int .u16 x3, .int .u32 x4, .slice a5 cl c5], .bool vv, .func (.func 61) #[] #[.pointer (some ⟨w.heap.size, 0, none⟩)]] W fun e w' => Chose bb (.agg #[.int .u32 x0, .int .u32 x1, .int .u16 x2, .int .u16 x3, .int .u32 x4, .slice a5 cl c5]) (.agg #[.int .u32 0, .int .u32 0, .int .u16 0, .int .u16 0, .int .u32 0, .slice none 0 0]) e ∧ Below W.heap.size W w' from by
      intro W hW
      have h := checkedInit ⟨w.heap.size, 0, none⟩ 2 f 2 0 p n c zs (initB 2 x0 x1 x2 x3 x4 ck) vv x0 x1 x2 x3 x4 a5 cl c5 W (HRW6.out.below hW) hz (initB_byt _ _ _ _ _ _ hckb) (by omega) (by have := initB_len 2 x0 x1 x2 x3 x4 ck; have := HR6.out.len; omega)
        (fun W2 h2 => pclInit 2 x0 x1 x2 x3 x4 a5 cl c5 ck w.heap.size W2 (by have := (HC6.out.keep hW).lt; have := h2.size; omega) (((HC6.out.keep hW).keep h2).cell (i := 0) rfl) ((HR6.out.reads.below hW).below h2) (by omega) lox0 hix0 lox1 hix1 lox2 hix2 lox3 hix3 lox4 hix4)
      rw [← hbb] at h
      exact h)
    have HYY := Lib.hid (show ∀ e, Chose bb (.agg #[.int .u32 x0, .int .u32 x1, .int .u16 x2, .int .u16 x3, .int .u32 x4, .slice a5 cl c5]) (.agg #[.int .u32 0, .int .u32 0, .int .u16 0, .int .u16 0, .int .u32 0, .slice none 0 0]) e → e = .returned (.tuple #[.agg #[.int .u32 y0, .int .u32 y1, .int .u16 y2, .int .u16 y3, .int .u32 y4, .slice ya yn yc], .int .i64 er]) from by
      rintro e (⟨h1, rfl⟩ | ⟨h1, rfl⟩)
      · rw [hy0, hy1, hy2, hy3, hy4, hya, hyn, hyc, her, if_pos h1, if_pos h1, if_pos h1, if_pos h1, if_pos h1, if_pos h1, if_pos h1, if_pos h1, if_pos h1]
      · rw [hy0, hy1, hy2, hy3, hy4, hya, hyn, hyc, her]; simp [h1])
    have HST := Lib.hid (show ∀ W, Below v6.heap.size v6 W → Arr (((((((W.setCell ⟨w.heap.size + 1, 0, none⟩ (.int .u32 y0)).setCell ⟨w.heap.size + 1, 1, none⟩ (.int .u32 y1)).setCell ⟨w.heap.size + 1, 2, none⟩ (.int .u16 y2)).setCell ⟨w.heap.size + 1, 3, none⟩ (.int .u16 y3)).setCell ⟨w.heap.size + 1, 4, none⟩ (.int .u32 y4)).setCell ⟨w.heap.size + 1, 5, none⟩ (.slice ya yn yc))) (w.heap.size + 1) 43 [.int .u32 y0, .int .u32 y1, .int .u16 y2, .int .u16 y3, .int .u32 y4, .slice ya yn yc] ∧ Below w.heap.size w (((((((W.setCell ⟨w.heap.size + 1, 0, none⟩ (.int .u32 y0)).setCell ⟨w.heap.size + 1, 1, none⟩ (.int .u32 y1)).setCell ⟨w.heap.size + 1, 2, none⟩ (.int .u16 y2)).setCell ⟨w.heap.size + 1, 3, none⟩ (.int .u16 y3)).setCell ⟨w.heap.size + 1, 4, none⟩ (.int .u32 y4)).setCell ⟨w.heap.size + 1, 5, none⟩ (.slice ya yn yc))) ∧ Row8 w.heap.size (((((((W.setCell ⟨w.heap.size + 1, 0, none⟩ (.int .u32 y0)).setCell ⟨w.heap.size + 1, 1, none⟩ (.int .u32 y1)).setCell ⟨w.heap.size + 1, 2, none⟩ (.int .u16 y2)).setCell ⟨w.heap.size + 1, 3, none⟩ (.int .u16 y3)).setCell ⟨w.heap.size + 1, 4, none⟩ (.int .u32 y4)).setCell ⟨w.heap.size + 1, 5, none⟩ (.slice ya yn yc))) a5 cl c5 ck from by
      intro W hJ
      exact ⟨(((((((HZ6.out.keep hJ).set 0 (.int .u32 y0)).set 1 (.int .u32 y1)).set 2 (.int .u16 y2)).set 3 (.int .u16 y3)).set 4 (.int .u32 y4)).set 5 (.slice ya yn yc)), (((((((HBV.out.trans (hJ.mono HBV.out.size)).setCell (p := ⟨w.heap.size + 1, 0, none⟩) (by simp) (.int .u32 y0)).setCell (p := ⟨w.heap.size + 1, 1, none⟩) (by simp) (.int .u32 y1)).setCell (p := ⟨w.heap.size + 1, 2, none⟩) (by simp) (.int .u16 y2)).setCell (p := ⟨w.heap.size + 1, 3, none⟩) (by simp) (.int .u16 y3)).setCell (p := ⟨w.heap.size + 1, 4, none⟩) (by simp) (.int .u32 y4)).setCell (p := ⟨w.heap.size + 1, 5, none⟩) (by simp) (.slice ya yn yc)), (((((((HR6.out.keep hJ).setAt (HZ6.out.keep hJ) (by decide) 0 (.int .u32 y0)).setAt ((HZ6.out.keep hJ).set 0 (.int .u32 y0)) (by decide) 1 (.int .u32 y1)).setAt (((HZ6.out.keep hJ).set 0 (.int .u32 y0)).set 1 (.int .u32 y1)) (by decide) 2 (.int .u16 y2)).setAt ((((HZ6.out.keep hJ).set 0 (.int .u32 y0)).set 1 (.int .u32 y1)).set 2 (.int .u16 y2)) (by decide) 3 (.int .u16 y3)).setAt (((((HZ6.out.keep hJ).set 0 (.int .u32 y0)).set 1 (.int .u32 y1)).set 2 (.int .u16 y2)).set 3 (.int .u16 y3)) (by decide) 4 (.int .u32 y4)).setAt ((((((HZ6.out.keep hJ).set 0 (.int .u32 y0)).set 1 (.int .u32 y1)).set 2 (.int .u16 y2)).set 3 (.int .u16 y3)).set 4 (.int .u32 y4)) (by decide) 5 (.slice ya yn yc))⟩)
    have ce0 := HC6.out.cell (i := 0) rfl
    have ce1 := HC6.out.cell (i := 1) rfl
    have ce2 := HC6.out.cell (i := 2) rfl
    have d0 := hA6.cell (i := 0) rfl
    have d1 := hA6.cell (i := 1) rfl
    have d2 := hA6.cell (i := 2) rfl
    have d3 := hA6.cell (i := 3) rfl
    have d4 := hA6.cell (i := 4) rfl
    have d5 := hA6.cell (i := 5) rfl
    have HY := Lib.hid (And.intro hy0 (And.intro hy1 (And.intro hy2 (And.intro hy3 (And.intro hy4 (And.intro hya (And.intro hyn (And.intro hyc her))))))))
    have HCKL := Lib.hid (And.intro hck hcl0)
    clear hA6 hB6 hr6 hb5 hr5 hA5 hB5 HCUT HA4 hvv hbb hck hcl0 hckb hckl hy0 hy1 hy2 hy3 hy4 hya hyn hyc her cc0 cc1 cc2
    go_wp2_with fail
    refine wp_region_any (by kernel_rfl) ?_
    refine Vals.wpAny_goodW (GInj w v6 gn_4 2 f x0 x1 x2 x3 x4 y0 y1 y2 y3 y4 er p n c a5 cl c5 ya yn yc vv) (fun l W => Vals.JR 10 (Below v6.heap.size v6 W) (Arr W (w.heap.size + 1) 43 [.int .u32 y0, .int .u32 y1, .int .u16 y2, .int .u16 y3, .int .u32 y4, .slice ya yn yc] ∧ Below w.heap.size w W ∧ Row8 w.heap.size W a5 cl c5 ck) l) [some 43, some 44, some 45, some 46, some 47, some 48, some 49, some 50, some 51, some 52, none, some 3] 53 _ _ rfl (by kernel_rfl) (by kernel_rfl) (by decide) ?step5 ?fin5 ⟨fun _ => (Below.refl _ _).drew, fun h => by simp at h⟩
    case step5 =>
      intro i o d ho hd listed a W hls hun hcl hJ hdf hdep hfr K hK
      match i, ho, hd with
      | 0, ho, hd =>
        have ho' := ho
        simp only [List.getElem?_toArray, List.getElem?_cons_zero, Option.some.injEq] at ho hd
        subst ho hd
        have r1 : a.eval (.tmp 1) = .pointer (some ⟨w.heap.size, 0, none⟩) := hfr 1 (by decide)
        rw [Vals.eval_tmp] at r1
        have hq0 := Vals.jnot hun (fun h => hcl 10 _ rfl h ⟨0, .phase⟩ (by simp) rfl)
        replace hJ := hJ.1 hq0
        have c0 := (HC6.out.keep hJ).cell (i := 0) rfl
        have c1 := (HC6.out.keep hJ).cell (i := 1) rfl
        have c2 := (HC6.out.keep hJ).cell (i := 2) rfl
        refine Vals.wpOp_run ho' rfl ?_
        clear hdep hfr ho' hdf hcl
        go_simp
        exact hK _ _ (fun _ _ h => h) (Vals.jnew hq0 (by decide) hJ) (fun _ => rfl)
      | 1, ho, hd =>
        have ho' := ho
        simp only [List.getElem?_toArray, List.getElem?_cons_zero, List.getElem?_cons_succ, Option.some.injEq] at ho hd
        subst ho hd
        have r4 : a.eval (.tmp 4) = .pointer (some ⟨gn_4, 0, none⟩) := hfr 4 (by decide)
        rw [Vals.eval_tmp] at r4
        have hq0 := Vals.jnot hun (fun h => hcl 10 _ rfl h ⟨1, .phase⟩ (by simp) rfl)
        replace hJ := hJ.1 hq0
        have c0 := (HA6.out.keep hJ).cell (i := 0) rfl
        have c1 := (HA6.out.keep hJ).cell (i := 1) rfl
        have c2 := (HA6.out.keep hJ).cell (i := 2) rfl
        have c3 := (HA6.out.keep hJ).cell (i := 3) rfl
        have c4 := (HA6.out.keep hJ).cell (i := 4) rfl
        have c5 := (HA6.out.keep hJ).cell (i := 5) rfl
        refine Vals.wpOp_run ho' rfl ?_
        clear hdep hfr ho' hdf hcl
        go_simp
        exact hK _ _ (fun _ _ h => h) (Vals.jnew hq0 (by decide) hJ) (fun _ => rfl)
      | 2, ho, hd =>
        have ho' := ho
        simp only [List.getElem?_toArray, List.getElem?_cons_zero, List.getElem?_cons_succ, Option.some.injEq] at ho hd
        subst ho hd
        have r1 : a.eval (.tmp 1) = .pointer (some ⟨w.heap.size, 0, none⟩) := hfr 1 (by decide)
        rw [Vals.eval_tmp] at r1
        have hq0 := Vals.jnot hun (fun h => hcl 10 _ rfl h ⟨2, .phase⟩ (by simp) rfl)
        replace hJ := hJ.1 hq0
        refine Vals.wpOp_run ho' rfl ?_
        clear hdep hfr ho' hdf hcl
        go_simp
        exact hK _ _ (fun _ _ h => h) (Vals.jnew hq0 (by decide) hJ) (fun _ => rfl)
      | 3, ho, hd =>
        have ho' := ho
        simp only [List.getElem?_toArray, List.getElem?_cons_zero, List.getElem?_cons_succ, Option.some.injEq] at ho hd
        subst ho hd
        have r45 : a.eval (.tmp 45) = .pointer (some ⟨w.heap.size, 0, none⟩) := (hdep ⟨2, .data⟩ (by simp) rfl).2 45 rfl
        rw [Vals.eval_tmp] at r45
        have hq0 := Vals.jnot hun (fun h => hcl 10 _ rfl h ⟨3, .phase⟩ (by simp) rfl)
        replace hJ := hJ.1 hq0
        have c0 := (HC6.out.keep hJ).cell (i := 0) rfl
        refine Vals.wpOp_run ho' rfl ?_
        clear hdep hfr ho' hdf hcl
        go_simp
        exact hK _ _ (fun _ _ h => h) (Vals.jnew hq0 (by decide) hJ) (fun _ => rfl)
      | 4, ho, hd =>
        have ho' := ho
        simp only [List.getElem?_toArray, List.getElem?_cons_zero, List.getElem?_cons_succ, Option.some.injEq] at ho hd
        subst ho hd
        have r4 : a.eval (.tmp 4) = .pointer (some ⟨gn_4, 0, none⟩) := hfr 4 (by decide)
        rw [Vals.eval_tmp] at r4
        have hq0 := Vals.jnot hun (fun h => hcl 10 _ rfl h ⟨4, .phase⟩ (by simp) rfl)
        replace hJ := hJ.1 hq0
        have c0 := (HA6.out.keep hJ).cell (i := 0) rfl
        have c1 := (HA6.out.keep hJ).cell (i := 1) rfl
        have c2 := (HA6.out.keep hJ).cell (i := 2) rfl
        have c3 := (HA6.out.keep hJ).cell (i := 3) rfl
        have c4 := (HA6.out.keep hJ).cell (i := 4) rfl
        have c5 := (HA6.out.keep hJ).cell (i := 5) rfl
        refine Vals.wpOp_run ho' rfl ?_
        clear hdep hfr ho' hdf hcl
        go_simp
        exact hK _ _ (fun _ _ h => h) (Vals.jnew hq0 (by decide) hJ) (fun _ => rfl)
      | 5, ho, hd =>
        have ho' := ho
        simp only [List.getElem?_toArray, List.getElem?_cons_zero, List.getElem?_cons_succ, Option.some.injEq] at ho hd
        subst ho hd
        have r46 : a.eval (.tmp 46) = .int .u8 2 := (hdep ⟨3, .data⟩ (by simp) rfl).2 46 rfl
        rw [Vals.eval_tmp] at r46
        have r47 : a.eval (.tmp 47) = .agg #[.int .u32 x0, .int .u32 x1, .int .u16 x2, .int .u16 x3, .int .u32 x4, .slice a5 cl c5] := (hdep ⟨4, .data⟩ (by simp) rfl).2 47 rfl
        rw [Vals.eval_tmp] at r47
        have hq0 := Vals.jnot hun (fun h => hcl 10 _ rfl h ⟨5, .phase⟩ (by simp) rfl)
        replace hJ := hJ.1 hq0
        refine Vals.wpOp_run ho' rfl ?_
        clear hdep hfr ho' hdf hcl
        go_simp
        refine (isInit_any 2 x0 x1 x2 x3 x4 a5 cl c5 W).mono ?_
        rintro e w' ⟨rfl, hb3⟩
        exact hK _ _ (GInj_mono hb3) (Vals.jnew hq0 (by decide) (hJ.trans (hb3.mono hJ.size))) (fun _ => by show Value.bool _ = Value.bool _; rw [HVV.out])
      | 6, ho, hd =>
        have ho' := ho
        simp only [List.getElem?_toArray, List.getElem?_cons_zero, List.getElem?_cons_succ, Option.some.injEq] at ho hd
        subst ho hd
        have r1 : a.eval (.tmp 1) = .pointer (some ⟨w.heap.size, 0, none⟩) := hfr 1 (by decide)
        rw [Vals.eval_tmp] at r1
        have hq0 := Vals.jnot hun (fun h => hcl 10 _ rfl h ⟨6, .phase⟩ (by simp) rfl)
        replace hJ := hJ.1 hq0
        have hmf : ∀ (fn : Fn) (first cap : Array Value) (w : World), (Instr.makeFunc fn first cap).run Try.prog w = .ok (.func fn first cap) w := fun _ _ _ _ => rfl
        refine Vals.wpOp_run ho' rfl ?_
        clear hdep hfr ho' hdf hcl
        go_simp
        exact hK _ _ (fun _ _ h => h) (Vals.jnew hq0 (by decide) hJ) (fun _ => rfl)
      | 7, ho, hd =>
        have ho' := ho
        simp only [List.getElem?_toArray, List.getElem?_cons_zero, List.getElem?_cons_succ, Option.some.injEq] at ho hd
        subst ho hd
        have r43 : a.eval (.tmp 43) = .agg #[.int .u8 2, .int .u8 f, .slice p n c] := (hdep ⟨0, .data⟩ (by simp) rfl).2 43 rfl
        rw [Vals.eval_tmp] at r43
        have r44 : a.eval (.tmp 44) = .agg #[.int .u32 x0, .int .u32 x1, .int .u16 x2, .int .u16 x3, .int .u32 x4, .slice a5 cl c5] := (hdep ⟨1, .data⟩ (by simp) rfl).2 44 rfl
        rw [Vals.eval_tmp] at r44
        have r48 : a.eval (.tmp 48) = .bool vv := (hdep ⟨5, .data⟩ (by simp) rfl).2 48 rfl
        rw [Vals.eval_tmp] at r48
        have r49 : a.eval (.tmp 49) = .func (.func 61) #[] #[.pointer (some ⟨w.heap.size, 0, none⟩)] := (hdep ⟨6, .data⟩ (by simp) rfl).2 49 rfl
        rw [Vals.eval_tmp] at r49
        have hq0 := Vals.jnot hun (fun h => hcl 10 _ rfl h ⟨7, .phase⟩ (by simp) rfl)
        replace hJ := hJ.1 hq0
        refine Vals.wpOp_run ho' rfl ?_
        clear hdep hfr ho' hdf hcl
        go_simp
        refine (HCK.out W hJ).mono ?_
        rintro e w' ⟨hch, hb3⟩
        obtain rfl := HYY.out e hch
        exact hK _ _ (GInj_mono hb3) (Vals.jnew hq0 (by decide) (hJ.trans (hb3.mono hJ.size))) (fun _ => rfl)
      | 8, ho, hd =>
        have ho' := ho
        simp only [List.getElem?_toArray, List.getElem?_cons_zero, List.getElem?_cons_succ, Option.some.injEq] at ho hd
        subst ho hd
        have r50 : a.eval (.tmp 50) = .tuple #[.agg #[.int .u32 y0, .int .u32 y1, .int .u16 y2, .int .u16 y3, .int .u32 y4, .slice ya yn yc], .int .i64 er] := (hdep ⟨7, .data⟩ (by simp) rfl).2 50 rfl
        rw [Vals.eval_tmp] at r50
        have hq0 := Vals.jnot hun (fun h => hcl 10 _ rfl h ⟨8, .phase⟩ (by simp) rfl)
        replace hJ := hJ.1 hq0
        refine Vals.wpOp_run ho' rfl ?_
        clear hdep hfr ho' hdf hcl
        go_simp
        exact hK _ _ (fun _ _ h => h) (Vals.jnew hq0 (by decide) hJ) (fun _ => rfl)
      | 9, ho, hd =>
        have ho' := ho
        simp only [List.getElem?_toArray, List.getElem?_cons_zero, List.getElem?_cons_succ, Option.some.injEq] at ho hd
        subst ho hd
        have r50 : a.eval (.tmp 50) = .tuple #[.agg #[.int .u32 y0, .int .u32 y1, .int .u16 y2, .int .u16 y3, .int .u32 y4, .slice ya yn yc], .int .i64 er] := (hdep ⟨7, .data⟩ (by simp) rfl).2 50 rfl
        rw [Vals.eval_tmp] at r50
        have hq0 := Vals.jnot hun (fun h => hcl 10 _ rfl h ⟨9, .phase⟩ (by simp) rfl)
        replace hJ := hJ.1 hq0
        refine Vals.wpOp_run ho' rfl ?_
        clear hdep hfr ho' hdf hcl
        go_simp
        exact hK _ _ (fun _ _ h => h) (Vals.jnew hq0 (by decide) hJ) (fun _ => rfl)
      | 10, ho, hd =>
        have ho' := ho
        simp only [List.getElem?_toArray, List.getElem?_cons_zero, List.getElem?_cons_succ, Option.some.injEq] at ho hd
        subst ho hd
        have r2 : a.eval (.tmp 2) = .pointer (some ⟨w.heap.size + 1, 0, none⟩) := hfr 2 (by decide)
        rw [Vals.eval_tmp] at r2
        have r51 : a.eval (.tmp 51) = .agg #[.int .u32 y0, .int .u32 y1, .int .u16 y2, .int .u16 y3, .int .u32 y4, .slice ya yn yc] := (hdep ⟨8, .data⟩ (by simp) rfl).2 51 rfl
        rw [Vals.eval_tmp] at r51
        have hJ0 := hJ
        replace hJ := hJ.1 (Vals.getD_true_false hun)
        refine Vals.wpOp_run ho' rfl ?_
        clear hdep hfr ho' hdf hcl
        have hzz := HZ6.out.keep hJ
        have fr0 := hzz.free 0
        have fr1 := hzz.free 1
        have fr2 := hzz.free 2
        have fr3 := hzz.free 3
        have fr4 := hzz.free 4
        have fr5 := hzz.free 5
        have y0 := hzz.cell (i := 0) rfl
        have y1 := hzz.cell (i := 1) rfl
        have y2 := hzz.cell (i := 2) rfl
        have y3 := hzz.cell (i := 3) rfl
        have y4 := hzz.cell (i := 4) rfl
        have y5 := hzz.cell (i := 5) rfl
        go_simp
        exact hK (.slice none 0 0) _ GInj_any ⟨fun h => absurd (Vals.jself2 (by rw [hls]; decide) h) (fun h => h), fun _ => HST.out W hJ⟩ (fun h => by cases h)
      | 11, ho, hd =>
        have ho' := ho
        simp only [List.getElem?_toArray, List.getElem?_cons_zero, List.getElem?_cons_succ, Option.some.injEq] at ho hd
        subst ho hd
        have r52 : a.eval (.tmp 52) = .int .i64 er := (hdep ⟨9, .data⟩ (by simp) rfl).2 52 rfl
        rw [Vals.eval_tmp] at r52
        refine Vals.wpOp_run ho' rfl ?_
        clear hdep hfr ho' hdf hcl
        go_simp
        exact hK _ _ (fun _ _ h => h) (Vals.jkeep hJ (by decide)) (fun _ => rfl)
      | i + 12, ho, hd => simp at ho
    case fin5 =>
      intro listed W fq2 hall hJ hG
      have hF := hJ.2 (hall 10 (by decide))
      have q0 : fq2 43 = .agg #[.int .u8 2, .int .u8 f, .slice p n c] := hG 0 43 rfl
      have q1 : fq2 44 = .agg #[.int .u32 x0, .int .u32 x1, .int .u16 x2, .int .u16 x3, .int .u32 x4, .slice a5 cl c5] := hG 1 44 rfl
      have q2 : fq2 45 = .pointer (some ⟨w.heap.size, 0, none⟩) := hG 2 45 rfl
      have q3 : fq2 46 = .int .u8 2 := hG 3 46 rfl
      have q4 : fq2 47 = .agg #[.int .u32 x0, .int .u32 x1, .int .u16 x2, .int .u16 x3, .int .u32 x4, .slice a5 cl c5] := hG 4 47 rfl
      have q5 : fq2 48 = .bool vv := hG 5 48 rfl
      have q6 : fq2 49 = .func (.func 61) #[] #[.pointer (some ⟨w.heap.size, 0, none⟩)] := hG 6 49 rfl
      have q7 : fq2 50 = .tuple #[.agg #[.int .u32 y0, .int .u32 y1, .int .u16 y2, .int .u16 y3, .int .u32 y4, .slice ya yn yc], .int .i64 er] := hG 7 50 rfl
      have q8 : fq2 51 = .agg #[.int .u32 y0, .int .u32 y1, .int .u16 y2, .int .u16 y3, .int .u32 y4, .slice ya yn yc] := hG 8 51 rfl
      have q9 : fq2 52 = .int .i64 er := hG 9 52 rfl
      have q11 : fq2 3 = .int .i64 er := hG 11 3 rfl
      clear hG hall
      simp only [Vals.puts, Vals.pairs, List.filterMap_cons, List.filterMap_nil, id, List.map_cons, List.map_nil, List.foldl_cons, List.foldl_nil, q0, q1, q2, q3, q4, q5, q6, q7, q8, q9, q11]
      clear q0 q1 q2 q3 q4 q5 q6 q7 q8 q9 q11
      go_frame
      have zz0 := hF.1.cell (i := 0) rfl
      have zz1 := hF.1.cell (i := 1) rfl
      have zz2 := hF.1.cell (i := 2) rfl
      have zz3 := hF.1.cell (i := 3) rfl
      have zz4 := hF.1.cell (i := 4) rfl
      have zz5 := hF.1.cell (i := 5) rfl
      have HE := Lib.hid hF.2
      clear hF hJ HCK HST HZ6 HC6 HA6 HR6 HRW6 HBV
      go_wp2
      refine bodyPost_ret (by simp [results, Try.results24, go_sem, zz0, zz1, zz2, zz3, zz4, zz5] <;> rfl) rfl ?_
      obtain ⟨hy0, hy1, hy2, hy3, hy4, hya, hyn, hyc, her⟩ := HY.out
      obtain ⟨hck, hcl0⟩ := HCKL.out
      have hvv := HVV.out
      have hbb := HBB.out
      rw [hcl0, hck] at hvv
      rw [hvv, hck] at hbb
      refine ⟨a5, c5, ?_, HE.out.1, ?_⟩
      · cases bb with
        | false => exact .inr ⟨hbb.symm, by rw [hy0, hy1, hy2, hy3, hy4, hya, hyn, hyc, her]; rfl⟩
        | true => exact .inl ⟨hbb.symm, by rw [hy0, hy1, hy2, hy3, hy4, hya, hyn, hyc, her, hcl0, hck]; rfl⟩
      · have h := HE.out.2
        rw [hcl0, hck] at h
        exact h

set_option maxRecDepth 100000 in
set_option maxHeartbeats 1600000 in
theorem pgetInit_no (k f : Int) (p : Option Addr) (n c : Nat) (zs : List Int) (w : World) (hr : Reads w p n zs) (hz : Byt zs) (hc : n ≤ c) (hn : n ≤ 281474976) (hk : k ≠ 2) (x0 : Int) (hxx0 : natAt zs 0 4 = x0) (x1 : Int) (hxx1 : natAt zs 4 4 = x1) (x2 : Int) (hxx2 : natAt zs 8 2 = x2) (x3 : Int) (hxx3 : natAt zs 10 2 = x3) (x4 : Int) (hxx4 : natAt zs 12 4 = x4) :
    Calls Try.prog 24 #[.agg #[.int .u8 k, .int .u8 f, .slice p n c]] w fun e w' => ∃ a1 c1, Chose (initOk k x0 x2 x3 (([] : List Int)).length && eqC k f zs k 0 (initB k x0 x1 x2 x3 x4 (([] : List Int)))) (.agg #[.int .u32 x0, .int .u32 x1, .int .u16 x2, .int .u16 x3, .int .u32 x4, .slice a1 ((([] : List Int)).length) c1]) (.agg #[.int .u32 0, .int .u32 0, .int .u16 0, .int .u16 0, .int .u32 0, .slice none 0 0]) e ∧ Below w.heap.size w w' ∧ Row8 w.heap.size w' a1 ((([] : List Int)).length) c1 (([] : List Int)) := by
  have HNx0 := Lib.hid (show ∀ W, Reads W p n zs → Calls Try.prog 50 #[.slice p n c, .int .i64 0, .int .i64 4] W fun e w' => e = .returned (.int .u64 x0) ∧ W = w' from fun W h => hxx0 ▸ num_any p n c 0 4 zs W h hz (by omega) (by omega) rfl)
  obtain ⟨lox0, hix0⟩ : 0 ≤ x0 ∧ x0 < 4294967296 := hxx0 ▸ natAt4 hz 0
  have HNx1 := Lib.hid (show ∀ W, Reads W p n zs → Calls Try.prog 50 #[.slice p n c, .int .i64 4, .int .i64 4] W fun e w' => e = .returned (.int .u64 x1) ∧ W = w' from fun W h => hxx1 ▸ num_any p n c 4 4 zs W h hz (by omega) (by omega) rfl)
  obtain ⟨lox1, hix1⟩ : 0 ≤ x1 ∧ x1 < 4294967296 := hxx1 ▸ natAt4 hz 4
  have HNx2 := Lib.hid (show ∀ W, Reads W p n zs → Calls Try.prog 50 #[.slice p n c, .int .i64 8, .int .i64 2] W fun e w' => e = .returned (.int .u64 x2) ∧ W = w' from fun W h => hxx2 ▸ num_any p n c 8 2 zs W h hz (by omega) (by omega) rfl)
  obtain ⟨lox2, hix2⟩ : 0 ≤ x2 ∧ x2 < 65536 := hxx2 ▸ natAt2 hz 8
  have HNx3 := Lib.hid (show ∀ W, Reads W p n zs → Calls Try.prog 50 #[.slice p n c, .int .i64 10, .int .i64 2] W fun e w' => e = .returned (.int .u64 x3) ∧ W = w' from fun W h => hxx3 ▸ num_any p n c 10 2 zs W h hz (by omega) (by omega) rfl)
  obtain ⟨lox3, hix3⟩ : 0 ≤ x3 ∧ x3 < 65536 := hxx3 ▸ natAt2 hz 10
  have HNx4 := Lib.hid (show ∀ W, Reads W p n zs → Calls Try.prog 50 #[.slice p n c, .int .i64 12, .int .i64 4] W fun e w' => e = .returned (.int .u64 x4) ∧ W = w' from fun W h => hxx4 ▸ num_any p n c 12 4 zs W h hz (by omega) (by omega) rfl)
  obtain ⟨lox4, hix4⟩ : 0 ≤ x4 ∧ x4 < 4294967296 := hxx4 ▸ natAt4 hz 12
  obtain ⟨wa, hwa⟩ : ∃ wa, w.alloc (.cells #[.int .u8 k, .int .u8 f, .slice p n c] 28) = wa := ⟨_, rfl⟩
  have hba : Below w.heap.size w wa := by rw [← hwa]; exact chunkBelow w k f _
  have hsa : wa.heap.size = w.heap.size + 1 := by rw [← hwa]; simp
  have hca : Arr wa w.heap.size 28 [.int .u8 k, .int .u8 f, .slice p n c] := by rw [← hwa]; exact chunkBox w k f _
  obtain ⟨wE, hwE⟩ : ∃ wE, wa.alloc (.cells #[.int .u32 0, .int .u32 0, .int .u16 0, .int .u16 0, .int .u32 0, .slice none 0 0] 43) = wE := ⟨_, rfl⟩
  have hbE0 : Below wa.heap.size wa wE := by rw [← hwE]; exact (Below.refl _ _).alloc (Nat.le_refl _) _
  have hsE : wE.heap.size = w.heap.size + 2 := by rw [← hwE]; simp; omega
  have hzE : Arr wE (w.heap.size + 1) 43 [.int .u32 0, .int .u32 0, .int .u16 0, .int .u16 0, .int .u32 0, .slice none 0 0] := by rw [← hwE, ← hsa]; exact arr_new _ _ _
  have hcE := hca.keep hbE0
  have hbE := hba.trans (hbE0.mono hba.size)
  have hr2 := hr.below hbE
  have HRW := Lib.hid (show ∀ W, Below wE.heap.size wE W → Reads W p n zs from fun W h => hr2.below h)
  have HC := Lib.hid hcE
  have HZ := Lib.hid hzE
  have HBE := Lib.hid (And.intro hbE hsE)
  have ek : (k == 2) = false := by simpa using hk
  have HKK := Lib.hid hk
  clear hk
  clear hba hca hbE0 hzE hcE hbE hr hr2 hxx0 hxx1 hxx2 hxx3 hxx4
  go_enter Try.func24, Try.ntmps24
  go_wp2_with fail
  refine wp_region_any (by kernel_rfl) ?_
  refine Vals.wpAny_goodLast (GIni w wE k f x0 x1 x2 x3 x4 p n c) (fun W => Below wE.heap.size wE W) [some 6, some 7, some 8, some 9, some 10, some 11, some 12, some 13, some 14, some 15, some 16, some 17, some 18, some 19, some 20, some 21, some 22, some 23, some 24, some 25, some 26, some 4, none] 22 53 _ _ rfl (by kernel_rfl) (by kernel_rfl) (by kernel_rfl) (by decide) rfl ?step ?fin (Below.refl _ _).drew
  case step =>
    intro i o d ho hd hiN a W hJ hdf hdep hfr K hK
    match i, ho, hd with
    | 0, ho, hd =>
      have ho' := ho
      simp only [List.getElem?_toArray, List.getElem?_cons_zero, Option.some.injEq] at ho hd
      subst ho hd
      have r1 : a.eval (.tmp 1) = .pointer (some ⟨w.heap.size, 0, none⟩) := hfr 1 (by decide)
      rw [Vals.eval_tmp] at r1
      refine Vals.wpOp_run ho' rfl ?_
      clear hdep hfr ho' hdf
      go_simp
      exact hK _ _ (fun _ _ h => h) hJ (fun _ => rfl)
    | 1, ho, hd =>
      have ho' := ho
      simp only [List.getElem?_toArray, List.getElem?_cons_zero, List.getElem?_cons_succ, Option.some.injEq] at ho hd
      subst ho hd
      have r6 : a.eval (.tmp 6) = .pointer (some ⟨w.heap.size, 2, none⟩) := hdep ⟨0, .data⟩ (by simp) rfl 6 rfl
      rw [Vals.eval_tmp] at r6
      have c0 := (HC.out.keep hJ).cell (i := 2) rfl
      refine Vals.wpOp_run ho' rfl ?_
      clear hdep hfr ho' hdf
      go_simp
      exact hK _ _ (fun _ _ h => h) hJ (fun _ => rfl)
    | 2, ho, hd =>
      have ho' := ho
      simp only [List.getElem?_toArray, List.getElem?_cons_zero, List.getElem?_cons_succ, Option.some.injEq] at ho hd
      subst ho hd
      have r7 : a.eval (.tmp 7) = .slice p n c := hdep ⟨1, .data⟩ (by simp) rfl 7 rfl
      rw [Vals.eval_tmp] at r7
      refine Vals.wpOp_run ho' rfl ?_
      clear hdep hfr ho' hdf
      go_simp
      refine (HNx0.out W (HRW.out W hJ)).mono ?_
      rintro e w' ⟨rfl, rfl⟩
      exact hK _ _ (fun _ _ h => h) hJ (fun _ => rfl)
    | 3, ho, hd =>
      have ho' := ho
      simp only [List.getElem?_toArray, List.getElem?_cons_zero, List.getElem?_cons_succ, Option.some.injEq] at ho hd
      subst ho hd
      have r8 : a.eval (.tmp 8) = .int .u64 x0 := hdep ⟨2, .data⟩ (by simp) rfl 8 rfl
      rw [Vals.eval_tmp] at r8
      refine Vals.wpOp_run ho' rfl ?_
      clear hdep hfr ho' hdf
      go_simp
      exact hK _ _ (fun _ _ h => h) hJ (fun _ => (by first | rfl | exact congrArg (Value.int _) (Int.emod_eq_of_lt (by assumption) (by assumption))))
    | 4, ho, hd =>
      have ho' := ho
      simp only [List.getElem?_toArray, List.getElem?_cons_zero, List.getElem?_cons_succ, Option.some.injEq] at ho hd
      subst ho hd
      have r1 : a.eval (.tmp 1) = .pointer (some ⟨w.heap.size, 0, none⟩) := hfr 1 (by decide)
      rw [Vals.eval_tmp] at r1
      refine Vals.wpOp_run ho' rfl ?_
      clear hdep hfr ho' hdf
      go_simp
      exact hK _ _ (fun _ _ h => h) hJ (fun _ => rfl)
    | 5, ho, hd =>
      have ho' := ho
      simp only [List.getElem?_toArray, List.getElem?_cons_zero, List.getElem?_cons_succ, Option.some.injEq] at ho hd
      subst ho hd
      have r10 : a.eval (.tmp 10) = .pointer (some ⟨w.heap.size, 2, none⟩) := hdep ⟨4, .data⟩ (by simp) rfl 10 rfl
      rw [Vals.eval_tmp] at r10
      have c0 := (HC.out.keep hJ).cell (i := 2) rfl
      refine Vals.wpOp_run ho' rfl ?_
      clear hdep hfr ho' hdf
      go_simp
      exact hK _ _ (fun _ _ h => h) hJ (fun _ => rfl)
    | 6, ho, hd =>
      have ho' := ho
      simp only [List.getElem?_toArray, List.getElem?_cons_zero, List.getElem?_cons_succ, Option.some.injEq] at ho hd
      subst ho hd
      have r11 : a.eval (.tmp 11) = .slice p n c := hdep ⟨5, .data⟩ (by simp) rfl 11 rfl
      rw [Vals.eval_tmp] at r11
      refine Vals.wpOp_run ho' rfl ?_
      clear hdep hfr ho' hdf
      go_simp
      refine (HNx1.out W (HRW.out W hJ)).mono ?_
      rintro e w' ⟨rfl, rfl⟩
      exact hK _ _ (fun _ _ h => h) hJ (fun _ => rfl)
    | 7, ho, hd =>
      have ho' := ho
      simp only [List.getElem?_toArray, List.getElem?_cons_zero, List.getElem?_cons_succ, Option.some.injEq] at ho hd
      subst ho hd
      have r12 : a.eval (.tmp 12) = .int .u64 x1 := hdep ⟨6, .data⟩ (by simp) rfl 12 rfl
      rw [Vals.eval_tmp] at r12
      refine Vals.wpOp_run ho' rfl ?_
      clear hdep hfr ho' hdf
      go_simp
      exact hK _ _ (fun _ _ h => h) hJ (fun _ => (by first | rfl | exact congrArg (Value.int _) (Int.emod_eq_of_lt (by assumption) (by assumption))))
    | 8, ho, hd =>
      have ho' := ho
      simp only [List.getElem?_toArray, List.getElem?_cons_zero, List.getElem?_cons_succ, Option.some.injEq] at ho hd
      subst ho hd
      have r1 : a.eval (.tmp 1) = .pointer (some ⟨w.heap.size, 0, none⟩) := hfr 1 (by decide)
      rw [Vals.eval_tmp] at r1
      refine Vals.wpOp_run ho' rfl ?_
      clear hdep hfr ho' hdf
      go_simp
      exact hK _ _ (fun _ _ h => h) hJ (fun _ => rfl)
    | 9, ho, hd =>
      have ho' := ho
      simp only [List.getElem?_toArray, List.getElem?_cons_zero, List.getElem?_cons_succ, Option.some.injEq] at ho hd
      subst ho hd
      have r14 : a.eval (.tmp 14) = .pointer (some ⟨w.heap.size, 2, none⟩) := hdep ⟨8, .data⟩ (by simp) rfl 14 rfl
      rw [Vals.eval_tmp] at r14
      have c0 := (HC.out.keep hJ).cell (i := 2) rfl
      refine Vals.wpOp_run ho' rfl ?_
      clear hdep hfr ho' hdf
      go_simp
      exact hK _ _ (fun _ _ h => h) hJ (fun _ => rfl)
    | 10, ho, hd =>
      have ho' := ho
      simp only [List.getElem?_toArray, List.getElem?_cons_zero, List.getElem?_cons_succ, Option.some.injEq] at ho hd
      subst ho hd
      have r15 : a.eval (.tmp 15) = .slice p n c := hdep ⟨9, .data⟩ (by simp) rfl 15 rfl
      rw [Vals.eval_tmp] at r15
      refine Vals.wpOp_run ho' rfl ?_
      clear hdep hfr ho' hdf
      go_simp
      refine (HNx2.out W (HRW.out W hJ)).mono ?_
      rintro e w' ⟨rfl, rfl⟩
      exact hK _ _ (fun _ _ h => h) hJ (fun _ => rfl)
    | 11, ho, hd =>
      have ho' := ho
      simp only [List.getElem?_toArray, List.getElem?_cons_zero, List.getElem?_cons_succ, Option.some.injEq] at ho hd
      subst ho hd
      have r16 : a.eval (.tmp 16) = .int .u64 x2 := hdep ⟨10, .data⟩ (by simp) rfl 16 rfl
      rw [Vals.eval_tmp] at r16
      refine Vals.wpOp_run ho' rfl ?_
      clear hdep hfr ho' hdf
      go_simp
      exact hK _ _ (fun _ _ h => h) hJ (fun _ => (by first | rfl | exact congrArg (Value.int _) (Int.emod_eq_of_lt (by assumption) (by assumption))))
    | 12, ho, hd =>
      have ho' := ho
      simp only [List.getElem?_toArray, List.getElem?_cons_zero, List.getElem?_cons_succ, Option.some.injEq] at ho hd
      subst ho hd
      have r1 : a.eval (.tmp 1) = .pointer (some ⟨w.heap.size, 0, none⟩) := hfr 1 (by decide)
      rw [Vals.eval_tmp] at r1
      refine Vals.wpOp_run ho' rfl ?_
      clear hdep hfr ho' hdf
      go_simp
      exact hK _ _ (fun _ _ h => h) hJ (fun _ => rfl)
    | 13, ho, hd =>
      have ho' := ho
      simp only [List.getElem?_toArray, List.getElem?_cons_zero, List.getElem?_cons_succ, Option.some.injEq] at ho hd
      subst ho hd
      have r18 : a.eval (.tmp 18) = .pointer (some ⟨w.heap.size, 2, none⟩) := hdep ⟨12, .data⟩ (by simp) rfl 18 rfl
      rw [Vals.eval_tmp] at r18
      have c0 := (HC.out.keep hJ).cell (i := 2) rfl
      refine Vals.wpOp_run ho' rfl ?_
      clear hdep hfr ho' hdf
      go_simp
      exact hK _ _ (fun _ _ h => h) hJ (fun _ => rfl)
    | 14, ho, hd =>
      have ho' := ho
      simp only [List.getElem?_toArray, List.getElem?_cons_zero, List.getElem?_cons_succ, Option.some.injEq] at ho hd
      subst ho hd
      have r19 : a.eval (.tmp 19) = .slice p n c := hdep ⟨13, .data⟩ (by simp) rfl 19 rfl
      rw [Vals.eval_tmp] at r19
      refine Vals.wpOp_run ho' rfl ?_
      clear hdep hfr ho' hdf
      go_simp
      refine (HNx3.out W (HRW.out W hJ)).mono ?_
      rintro e w' ⟨rfl, rfl⟩
      exact hK _ _ (fun _ _ h => h) hJ (fun _ => rfl)
    | 15, ho, hd =>
      have ho' := ho
      simp only [List.getElem?_toArray, List.getElem?_cons_zero, List.getElem?_cons_succ, Option.some.injEq] at ho hd
      subst ho hd
      have r20 : a.eval (.tmp 20) = .int .u64 x3 := hdep ⟨14, .data⟩ (by simp) rfl 20 rfl
      rw [Vals.eval_tmp] at r20
      refine Vals.wpOp_run ho' rfl ?_
      clear hdep hfr ho' hdf
      go_simp
      exact hK _ _ (fun _ _ h => h) hJ (fun _ => (by first | rfl | exact congrArg (Value.int _) (Int.emod_eq_of_lt (by assumption) (by assumption))))
    | 16, ho, hd =>
      have ho' := ho
      simp only [List.getElem?_toArray, List.getElem?_cons_zero, List.getElem?_cons_succ, Option.some.injEq] at ho hd
      subst ho hd
      have r1 : a.eval (.tmp 1) = .pointer (some ⟨w.heap.size, 0, none⟩) := hfr 1 (by decide)
      rw [Vals.eval_tmp] at r1
      refine Vals.wpOp_run ho' rfl ?_
      clear hdep hfr ho' hdf
      go_simp
      exact hK _ _ (fun _ _ h => h) hJ (fun _ => rfl)
    | 17, ho, hd =>
      have ho' := ho
      simp only [List.getElem?_toArray, List.getElem?_cons_zero, List.getElem?_cons_succ, Option.some.injEq] at ho hd
      subst ho hd
      have r22 : a.eval (.tmp 22) = .pointer (some ⟨w.heap.size, 2, none⟩) := hdep ⟨16, .data⟩ (by simp) rfl 22 rfl
      rw [Vals.eval_tmp] at r22
      have c0 := (HC.out.keep hJ).cell (i := 2) rfl
      refine Vals.wpOp_run ho' rfl ?_
      clear hdep hfr ho' hdf
      go_simp
      exact hK _ _ (fun _ _ h => h) hJ (fun _ => rfl)
    | 18, ho, hd =>
      have ho' := ho
      simp only [List.getElem?_toArray, List.getElem?_cons_zero, List.getElem?_cons_succ, Option.some.injEq] at ho hd
      subst ho hd
      have r23 : a.eval (.tmp 23) = .slice p n c := hdep ⟨17, .data⟩ (by simp) rfl 23 rfl
      rw [Vals.eval_tmp] at r23
      refine Vals.wpOp_run ho' rfl ?_
      clear hdep hfr ho' hdf
      go_simp
      refine (HNx4.out W (HRW.out W hJ)).mono ?_
      rintro e w' ⟨rfl, rfl⟩
      exact hK _ _ (fun _ _ h => h) hJ (fun _ => rfl)
    | 19, ho, hd =>
      have ho' := ho
      simp only [List.getElem?_toArray, List.getElem?_cons_zero, List.getElem?_cons_succ, Option.some.injEq] at ho hd
      subst ho hd
      have r24 : a.eval (.tmp 24) = .int .u64 x4 := hdep ⟨18, .data⟩ (by simp) rfl 24 rfl
      rw [Vals.eval_tmp] at r24
      refine Vals.wpOp_run ho' rfl ?_
      clear hdep hfr ho' hdf
      go_simp
      exact hK _ _ (fun _ _ h => h) hJ (fun _ => (by first | rfl | exact congrArg (Value.int _) (Int.emod_eq_of_lt (by assumption) (by assumption))))
    | 20, ho, hd =>
      have ho' := ho
      simp only [List.getElem?_toArray, List.getElem?_cons_zero, List.getElem?_cons_succ, Option.some.injEq] at ho hd
      subst ho hd
      have r9 : a.eval (.tmp 9) = .int .u32 x0 := hdep ⟨3, .data⟩ (by simp) rfl 9 rfl
      rw [Vals.eval_tmp] at r9
      have r13 : a.eval (.tmp 13) = .int .u32 x1 := hdep ⟨7, .data⟩ (by simp) rfl 13 rfl
      rw [Vals.eval_tmp] at r13
      have r17 : a.eval (.tmp 17) = .int .u16 x2 := hdep ⟨11, .data⟩ (by simp) rfl 17 rfl
      rw [Vals.eval_tmp] at r17
      have r21 : a.eval (.tmp 21) = .int .u16 x3 := hdep ⟨15, .data⟩ (by simp) rfl 21 rfl
      rw [Vals.eval_tmp] at r21
      have r25 : a.eval (.tmp 25) = .int .u32 x4 := hdep ⟨19, .data⟩ (by simp) rfl 25 rfl
      rw [Vals.eval_tmp] at r25
      refine Vals.wpOp_run ho' rfl ?_
      clear hdep hfr ho' hdf
      go_simp
      exact hK _ _ (fun _ _ h => h) hJ (fun _ => rfl)
    | 21, ho, hd =>
      have ho' := ho
      simp only [List.getElem?_toArray, List.getElem?_cons_zero, List.getElem?_cons_succ, Option.some.injEq] at ho hd
      subst ho hd
      refine Vals.wpOp_run ho' rfl ?_
      clear hdep hfr ho' hdf
      go_simp
      have hb3 : Below W.heap.size W (W.alloc (.cells #[.int .u32 0, .int .u32 0, .int .u16 0, .int .u16 0, .int .u32 0, .slice none 0 0] 43)) := (Below.refl _ _).alloc (Nat.le_refl _) _
      exact hK _ _ (GIni_mono hb3) (hJ.trans (hb3.mono hJ.size)) (fun _ => ⟨_, rfl, hJ.size, arr_new _ _ _⟩)
    | i + 22, ho, hd => omega
  case fin =>
    intro W fq hJ hG
    have q0 : fq 6 = .pointer (some ⟨w.heap.size, 2, none⟩) := hG 0 6 rfl
    have q1 : fq 7 = .slice p n c := hG 1 7 rfl
    have q2 : fq 8 = .int .u64 x0 := hG 2 8 rfl
    have q3 : fq 9 = .int .u32 x0 := hG 3 9 rfl
    have q4 : fq 10 = .pointer (some ⟨w.heap.size, 2, none⟩) := hG 4 10 rfl
    have q5 : fq 11 = .slice p n c := hG 5 11 rfl
    have q6 : fq 12 = .int .u64 x1 := hG 6 12 rfl
    have q7 : fq 13 = .int .u32 x1 := hG 7 13 rfl
    have q8 : fq 14 = .pointer (some ⟨w.heap.size, 2, none⟩) := hG 8 14 rfl
    have q9 : fq 15 = .slice p n c := hG 9 15 rfl
    have q10 : fq 16 = .int .u64 x2 := hG 10 16 rfl
    have q11 : fq 17 = .int .u16 x2 := hG 11 17 rfl
    have q12 : fq 18 = .pointer (some ⟨w.heap.size, 2, none⟩) := hG 12 18 rfl
    have q13 : fq 19 = .slice p n c := hG 13 19 rfl
    have q14 : fq 20 = .int .u64 x3 := hG 14 20 rfl
    have q15 : fq 21 = .int .u16 x3 := hG 15 21 rfl
    have q16 : fq 22 = .pointer (some ⟨w.heap.size, 2, none⟩) := hG 16 22 rfl
    have q17 : fq 23 = .slice p n c := hG 17 23 rfl
    have q18 : fq 24 = .int .u64 x4 := hG 18 24 rfl
    have q19 : fq 25 = .int .u32 x4 := hG 19 25 rfl
    have q20 : fq 26 = .agg #[.int .u32 x0, .int .u32 x1, .int .u16 x2, .int .u16 x3, .int .u32 x4, .slice none 0 0] := hG 20 26 rfl
    obtain ⟨gn_4, q21, hq4_0, hq4_1⟩ : ∃ gn_4, fq 4 = .pointer (some ⟨gn_4, 0, none⟩) ∧ wE.heap.size ≤ gn_4 ∧ Arr W gn_4 43 [.int .u32 0, .int .u32 0, .int .u16 0, .int .u16 0, .int .u32 0, .slice none 0 0] := hG 21 4 rfl
    clear hG
    refine Vals.wpOp_run rfl rfl ?_
    simp only [Vals.puts, Vals.pairs, List.filterMap_cons, List.filterMap_nil, id, List.map_cons, List.map_nil, List.foldl_cons, List.foldl_nil, q0, q1, q2, q3, q4, q5, q6, q7, q8, q9, q10, q11, q12, q13, q14, q15, q16, q17, q18, q19, q20, q21]
    clear q0 q1 q2 q3 q4 q5 q6 q7 q8 q9 q10 q11 q12 q13 q14 q15 q16 q17 q18 q19 q20 q21
    go_frame
    obtain ⟨W4, hW4⟩ : ∃ x, ((((((W.setCell ⟨gn_4, 0, none⟩ (.int .u32 x0)).setCell ⟨gn_4, 1, none⟩ (.int .u32 x1)).setCell ⟨gn_4, 2, none⟩ (.int .u16 x2)).setCell ⟨gn_4, 3, none⟩ (.int .u16 x3)).setCell ⟨gn_4, 4, none⟩ (.int .u32 x4)).setCell ⟨gn_4, 5, none⟩ (.slice none 0 0)) = x := ⟨_, rfl⟩
    have hA4 : Arr _ gn_4 43 [.int .u32 x0, .int .u32 x1, .int .u16 x2, .int .u16 x3, .int .u32 x4, .slice none 0 0] := ((((((hq4_1.set 0 (.int .u32 x0)).set 1 (.int .u32 x1)).set 2 (.int .u16 x2)).set 3 (.int .u16 x3)).set 4 (.int .u32 x4)).set 5 (.slice none 0 0))
    have hB4 := (((((((hJ : Below wE.heap.size wE W).setCell (p := ⟨gn_4, 0, none⟩) hq4_0 (.int .u32 x0)).setCell (p := ⟨gn_4, 1, none⟩) hq4_0 (.int .u32 x1)).setCell (p := ⟨gn_4, 2, none⟩) hq4_0 (.int .u16 x2)).setCell (p := ⟨gn_4, 3, none⟩) hq4_0 (.int .u16 x3)).setCell (p := ⟨gn_4, 4, none⟩) hq4_0 (.int .u32 x4)).setCell (p := ⟨gn_4, 5, none⟩) hq4_0 (.slice none 0 0))
    rw [hW4] at hA4 hB4
    have fr0 := hq4_1.free 0
    have fr1 := hq4_1.free 1
    have fr2 := hq4_1.free 2
    have fr3 := hq4_1.free 3
    have fr4 := hq4_1.free 4
    have fr5 := hq4_1.free 5
    have y0 := hq4_1.cell (i := 0) rfl
    have y1 := hq4_1.cell (i := 1) rfl
    have y2 := hq4_1.cell (i := 2) rfl
    have y3 := hq4_1.cell (i := 3) rfl
    have y4 := hq4_1.cell (i := 4) rfl
    have y5 := hq4_1.cell (i := 5) rfl
    have HA4 := Lib.hid hA4
    have HB4 := Lib.hid hB4
    have HGN := Lib.hid hq4_0
    clear hJ hq4_1 hq4_0 hA4 hB4
    go_simp
    have cc0 := (HC.out.keep HB4.out).cell (i := 0) rfl
    have cc1 := (HC.out.keep HB4.out).cell (i := 1) rfl
    have cc2 := (HC.out.keep HB4.out).cell (i := 2) rfl
    clear fr0 fr1 fr2 fr3 fr4 fr5 y0 y1 y2 y3 y4 y5
    obtain ⟨v6, hv6⟩ : ∃ x, W4 = x := ⟨_, rfl⟩
    obtain ⟨a5, ha5⟩ : ∃ x : Option Addr, x = none := ⟨_, rfl⟩
    obtain ⟨cl, hcl0⟩ : ∃ x : Nat, x = 0 := ⟨_, rfl⟩
    obtain ⟨c5, hc5⟩ : ∃ x : Nat, x = 0 := ⟨_, rfl⟩
    obtain ⟨ck, hck⟩ : ∃ ck : List Int, ck = [] := ⟨_, rfl⟩
    have hckb : Byt ck := by rw [hck]; exact Byt.nil
    have hckl : cl ≤ n := by omega
    have hA6 : Arr v6 gn_4 43 [.int .u32 x0, .int .u32 x1, .int .u16 x2, .int .u16 x3, .int .u32 x4, .slice a5 cl c5] := by rw [← hv6, ha5, hcl0, hc5]; exact HA4.out
    have hB6 : Below wE.heap.size wE v6 := by rw [← hv6]; exact HB4.out
    have hr6 : Row8 w.heap.size v6 a5 cl c5 ck := by rw [ha5, hcl0, hc5, hck]; exact Row8.nil _ _
    have HC6 := Lib.hid (HC.out.keep hB6)
    have HZ6 := Lib.hid (HZ.out.keep hB6)
    have HA6 := Lib.hid hA6
    have HR6 := Lib.hid hr6
    have HRW6 := Lib.hid (HRW.out v6 hB6)
    have HBV := Lib.hid (HBE.out.1.trans (hB6.mono HBE.out.1.size))
    obtain ⟨vv, hvv⟩ : ∃ vv, vv = initOk k x0 x2 x3 cl := ⟨_, rfl⟩
    have HVV := Lib.hid hvv
    obtain ⟨bb, hbb⟩ : ∃ bb, bb = (vv && eqC k f zs k 0 (initB k x0 x1 x2 x3 x4 ck)) := ⟨_, rfl⟩
    have HBB := Lib.hid hbb
    obtain ⟨y0, hy0⟩ : ∃ y, y = (if bb = true then x0 else 0) := ⟨_, rfl⟩
    obtain ⟨y1, hy1⟩ : ∃ y, y = (if bb = true then x1 else 0) := ⟨_, rfl⟩
    obtain ⟨y2, hy2⟩ : ∃ y, y = (if bb = true then x2 else 0) := ⟨_, rfl⟩
    obtain ⟨y3, hy3⟩ : ∃ y, y = (if bb = true then x3 else 0) := ⟨_, rfl⟩
    obtain ⟨y4, hy4⟩ : ∃ y, y = (if bb = true then x4 else 0) := ⟨_, rfl⟩
    obtain ⟨ya, hya⟩ : ∃ y, y = (if bb = true then a5 else none) := ⟨_, rfl⟩
    obtain ⟨yn, hyn⟩ : ∃ y, y = (if bb = true then cl else 0) := ⟨_, rfl⟩
    obtain ⟨yc, hyc⟩ : ∃ y, y = (if bb = true then c5 else 0) := ⟨_, rfl⟩
    obtain ⟨er, her⟩ : ∃ y : Int, y = (if bb = true then 0 else 7) := ⟨_, rfl⟩
    have HCK := Lib.hid (show ∀ W, Below v6.heap.size v6 W → Calls Try.prog 59 #[.agg #[.int .u8 k, .int .u8 f, .slice p n c], .agg #[.int .u32 x0, .int .u32 x1, .int .u16 x2, .int .u16 x3, .int .u32 x4, .slice a5 cl c5], .bool vv, .func (.func 61) #[] #[.pointer (some ⟨w.heap.size, 0, none⟩)]] W fun e w' => Chose bb (.agg #[.int .u32 x0, .int .u32 x1, .int .u16 x2, .int .u16 x3, .int .u32 x4, .slice a5 cl c5]) (.agg #[.int .u32 0, .int .u32 0, .int .u16 0, .int .u16 0, .int .u32 0, .slice none 0 0]) e ∧ Below W.heap.size W w' from by
      intro W hW
      have h := checkedInit ⟨w.heap.size, 0, none⟩ k f k 0 p n c zs (initB k x0 x1 x2 x3 x4 ck) vv x0 x1 x2 x3 x4 a5 cl c5 W (HRW6.out.below hW) hz (initB_byt _ _ _ _ _ _ hckb) (by omega) (by have := initB_len k x0 x1 x2 x3 x4 ck; have := HR6.out.len; omega)
        (fun W2 h2 => pclInit k x0 x1 x2 x3 x4 a5 cl c5 ck w.heap.size W2 (by have := (HC6.out.keep hW).lt; have := h2.size; omega) (((HC6.out.keep hW).keep h2).cell (i := 0) rfl) ((HR6.out.reads.below hW).below h2) (by omega) lox0 hix0 lox1 hix1 lox2 hix2 lox3 hix3 lox4 hix4)
      rw [← hbb] at h
      exact h)
    have HYY := Lib.hid (show ∀ e, Chose bb (.agg #[.int .u32 x0, .int .u32 x1, .int .u16 x2, .int .u16 x3, .int .u32 x4, .slice a5 cl c5]) (.agg #[.int .u32 0, .int .u32 0, .int .u16 0, .int .u16 0, .int .u32 0, .slice none 0 0]) e → e = .returned (.tuple #[.agg #[.int .u32 y0, .int .u32 y1, .int .u16 y2, .int .u16 y3, .int .u32 y4, .slice ya yn yc], .int .i64 er]) from by
      rintro e (⟨h1, rfl⟩ | ⟨h1, rfl⟩)
      · rw [hy0, hy1, hy2, hy3, hy4, hya, hyn, hyc, her, if_pos h1, if_pos h1, if_pos h1, if_pos h1, if_pos h1, if_pos h1, if_pos h1, if_pos h1, if_pos h1]
      · rw [hy0, hy1, hy2, hy3, hy4, hya, hyn, hyc, her]; simp [h1])
    have HST := Lib.hid (show ∀ W, Below v6.heap.size v6 W → Arr (((((((W.setCell ⟨w.heap.size + 1, 0, none⟩ (.int .u32 y0)).setCell ⟨w.heap.size + 1, 1, none⟩ (.int .u32 y1)).setCell ⟨w.heap.size + 1, 2, none⟩ (.int .u16 y2)).setCell ⟨w.heap.size + 1, 3, none⟩ (.int .u16 y3)).setCell ⟨w.heap.size + 1, 4, none⟩ (.int .u32 y4)).setCell ⟨w.heap.size + 1, 5, none⟩ (.slice ya yn yc))) (w.heap.size + 1) 43 [.int .u32 y0, .int .u32 y1, .int .u16 y2, .int .u16 y3, .int .u32 y4, .slice ya yn yc] ∧ Below w.heap.size w (((((((W.setCell ⟨w.heap.size + 1, 0, none⟩ (.int .u32 y0)).setCell ⟨w.heap.size + 1, 1, none⟩ (.int .u32 y1)).setCell ⟨w.heap.size + 1, 2, none⟩ (.int .u16 y2)).setCell ⟨w.heap.size + 1, 3, none⟩ (.int .u16 y3)).setCell ⟨w.heap.size + 1, 4, none⟩ (.int .u32 y4)).setCell ⟨w.heap.size + 1, 5, none⟩ (.slice ya yn yc))) ∧ Row8 w.heap.size (((((((W.setCell ⟨w.heap.size + 1, 0, none⟩ (.int .u32 y0)).setCell ⟨w.heap.size + 1, 1, none⟩ (.int .u32 y1)).setCell ⟨w.heap.size + 1, 2, none⟩ (.int .u16 y2)).setCell ⟨w.heap.size + 1, 3, none⟩ (.int .u16 y3)).setCell ⟨w.heap.size + 1, 4, none⟩ (.int .u32 y4)).setCell ⟨w.heap.size + 1, 5, none⟩ (.slice ya yn yc))) a5 cl c5 ck from by
      intro W hJ
      exact ⟨(((((((HZ6.out.keep hJ).set 0 (.int .u32 y0)).set 1 (.int .u32 y1)).set 2 (.int .u16 y2)).set 3 (.int .u16 y3)).set 4 (.int .u32 y4)).set 5 (.slice ya yn yc)), (((((((HBV.out.trans (hJ.mono HBV.out.size)).setCell (p := ⟨w.heap.size + 1, 0, none⟩) (by simp) (.int .u32 y0)).setCell (p := ⟨w.heap.size + 1, 1, none⟩) (by simp) (.int .u32 y1)).setCell (p := ⟨w.heap.size + 1, 2, none⟩) (by simp) (.int .u16 y2)).setCell (p := ⟨w.heap.size + 1, 3, none⟩) (by simp) (.int .u16 y3)).setCell (p := ⟨w.heap.size + 1, 4, none⟩) (by simp) (.int .u32 y4)).setCell (p := ⟨w.heap.size + 1, 5, none⟩) (by simp) (.slice ya yn yc)), (((((((HR6.out.keep hJ).setAt (HZ6.out.keep hJ) (by decide) 0 (.int .u32 y0)).setAt ((HZ6.out.keep hJ).set 0 (.int .u32 y0)) (by decide) 1 (.int .u32 y1)).setAt (((HZ6.out.keep hJ).set 0 (.int .u32 y0)).set 1 (.int .u32 y1)) (by decide) 2 (.int .u16 y2)).setAt ((((HZ6.out.keep hJ).set 0 (.int .u32 y0)).set 1 (.int .u32 y1)).set 2 (.int .u16 y2)) (by decide) 3 (.int .u16 y3)).setAt (((((HZ6.out.keep hJ).set 0 (.int .u32 y0)).set 1 (.int .u32 y1)).set 2 (.int .u16 y2)).set 3 (.int .u16 y3)) (by decide) 4 (.int .u32 y4)).setAt ((((((HZ6.out.keep hJ).set 0 (.int .u32 y0)).set 1 (.int .u32 y1)).set 2 (.int .u16 y2)).set 3 (.int .u16 y3)).set 4 (.int .u32 y4)) (by decide) 5 (.slice ya yn yc))⟩)
    have ce0 := HC6.out.cell (i := 0) rfl
    have ce1 := HC6.out.cell (i := 1) rfl
    have ce2 := HC6.out.cell (i := 2) rfl
    have d0 := hA6.cell (i := 0) rfl
    have d1 := hA6.cell (i := 1) rfl
    have d2 := hA6.cell (i := 2) rfl
    have d3 := hA6.cell (i := 3) rfl
    have d4 := hA6.cell (i := 4) rfl
    have d5 := hA6.cell (i := 5) rfl
    have HY := Lib.hid (And.intro hy0 (And.intro hy1 (And.intro hy2 (And.intro hy3 (And.intro hy4 (And.intro hya (And.intro hyn (And.intro hyc her))))))))
    have HCKL := Lib.hid (And.intro hck hcl0)
    clear hA6 hB6 hr6 HA4 ha5 hc5 hvv hbb hck hcl0 hckb hckl hy0 hy1 hy2 hy3 hy4 hya hyn hyc her cc0 cc1 cc2
    go_wp2_with fail
    refine wp_region_any (by kernel_rfl) ?_
    refine Vals.wpAny_goodW (GInj w v6 gn_4 k f x0 x1 x2 x3 x4 y0 y1 y2 y3 y4 er p n c a5 cl c5 ya yn yc vv) (fun l W => Vals.JR 10 (Below v6.heap.size v6 W) (Arr W (w.heap.size + 1) 43 [.int .u32 y0, .int .u32 y1, .int .u16 y2, .int .u16 y3, .int .u32 y4, .slice ya yn yc] ∧ Below w.heap.size w W ∧ Row8 w.heap.size W a5 cl c5 ck) l) [some 43, some 44, some 45, some 46, some 47, some 48, some 49, some 50, some 51, some 52, none, some 3] 53 _ _ rfl (by kernel_rfl) (by kernel_rfl) (by decide) ?step5 ?fin5 ⟨fun _ => (Below.refl _ _).drew, fun h => by simp at h⟩
    case step5 =>
      intro i o d ho hd listed a W hls hun hcl hJ hdf hdep hfr K hK
      match i, ho, hd with
      | 0, ho, hd =>
        have ho' := ho
        simp only [List.getElem?_toArray, List.getElem?_cons_zero, Option.some.injEq] at ho hd
        subst ho hd
        have r1 : a.eval (.tmp 1) = .pointer (some ⟨w.heap.size, 0, none⟩) := hfr 1 (by decide)
        rw [Vals.eval_tmp] at r1
        have hq0 := Vals.jnot hun (fun h => hcl 10 _ rfl h ⟨0, .phase⟩ (by simp) rfl)
        replace hJ := hJ.1 hq0
        have c0 := (HC6.out.keep hJ).cell (i := 0) rfl
        have c1 := (HC6.out.keep hJ).cell (i := 1) rfl
        have c2 := (HC6.out.keep hJ).cell (i := 2) rfl
        refine Vals.wpOp_run ho' rfl ?_
        clear hdep hfr ho' hdf hcl
        go_simp
        exact hK _ _ (fun _ _ h => h) (Vals.jnew hq0 (by decide) hJ) (fun _ => rfl)
      | 1, ho, hd =>
        have ho' := ho
        simp only [List.getElem?_toArray, List.getElem?_cons_zero, List.getElem?_cons_succ, Option.some.injEq] at ho hd
        subst ho hd
        have r4 : a.eval (.tmp 4) = .pointer (some ⟨gn_4, 0, none⟩) := hfr 4 (by decide)
        rw [Vals.eval_tmp] at r4
        have hq0 := Vals.jnot hun (fun h => hcl 10 _ rfl h ⟨1, .phase⟩ (by simp) rfl)
        replace hJ := hJ.1 hq0
        have c0 := (HA6.out.keep hJ).cell (i := 0) rfl
        have c1 := (HA6.out.keep hJ).cell (i := 1) rfl
        have c2 := (HA6.out.keep hJ).cell (i := 2) rfl
        have c3 := (HA6.out.keep hJ).cell (i := 3) rfl
        have c4 := (HA6.out.keep hJ).cell (i := 4) rfl
        have c5 := (HA6.out.keep hJ).cell (i := 5) rfl
        refine Vals.wpOp_run ho' rfl ?_
        clear hdep hfr ho' hdf hcl
        go_simp
        exact hK _ _ (fun _ _ h => h) (Vals.jnew hq0 (by decide) hJ) (fun _ => rfl)
      | 2, ho, hd =>
        have ho' := ho
        simp only [List.getElem?_toArray, List.getElem?_cons_zero, List.getElem?_cons_succ, Option.some.injEq] at ho hd
        subst ho hd
        have r1 : a.eval (.tmp 1) = .pointer (some ⟨w.heap.size, 0, none⟩) := hfr 1 (by decide)
        rw [Vals.eval_tmp] at r1
        have hq0 := Vals.jnot hun (fun h => hcl 10 _ rfl h ⟨2, .phase⟩ (by simp) rfl)
        replace hJ := hJ.1 hq0
        refine Vals.wpOp_run ho' rfl ?_
        clear hdep hfr ho' hdf hcl
        go_simp
        exact hK _ _ (fun _ _ h => h) (Vals.jnew hq0 (by decide) hJ) (fun _ => rfl)
      | 3, ho, hd =>
        have ho' := ho
        simp only [List.getElem?_toArray, List.getElem?_cons_zero, List.getElem?_cons_succ, Option.some.injEq] at ho hd
        subst ho hd
        have r45 : a.eval (.tmp 45) = .pointer (some ⟨w.heap.size, 0, none⟩) := (hdep ⟨2, .data⟩ (by simp) rfl).2 45 rfl
        rw [Vals.eval_tmp] at r45
        have hq0 := Vals.jnot hun (fun h => hcl 10 _ rfl h ⟨3, .phase⟩ (by simp) rfl)
        replace hJ := hJ.1 hq0
        have c0 := (HC6.out.keep hJ).cell (i := 0) rfl
        refine Vals.wpOp_run ho' rfl ?_
        clear hdep hfr ho' hdf hcl
        go_simp
        exact hK _ _ (fun _ _ h => h) (Vals.jnew hq0 (by decide) hJ) (fun _ => rfl)
      | 4, ho, hd =>
        have ho' := ho
        simp only [List.getElem?_toArray, List.getElem?_cons_zero, List.getElem?_cons_succ, Option.some.injEq] at ho hd
        subst ho hd
        have r4 : a.eval (.tmp 4) = .pointer (some ⟨gn_4, 0, none⟩) := hfr 4 (by decide)
        rw [Vals.eval_tmp] at r4
        have hq0 := Vals.jnot hun (fun h => hcl 10 _ rfl h ⟨4, .phase⟩ (by simp) rfl)
        replace hJ := hJ.1 hq0
        have c0 := (HA6.out.keep hJ).cell (i := 0) rfl
        have c1 := (HA6.out.keep hJ).cell (i := 1) rfl
        have c2 := (HA6.out.keep hJ).cell (i := 2) rfl
        have c3 := (HA6.out.keep hJ).cell (i := 3) rfl
        have c4 := (HA6.out.keep hJ).cell (i := 4) rfl
        have c5 := (HA6.out.keep hJ).cell (i := 5) rfl
        refine Vals.wpOp_run ho' rfl ?_
        clear hdep hfr ho' hdf hcl
        go_simp
        exact hK _ _ (fun _ _ h => h) (Vals.jnew hq0 (by decide) hJ) (fun _ => rfl)
      | 5, ho, hd =>
        have ho' := ho
        simp only [List.getElem?_toArray, List.getElem?_cons_zero, List.getElem?_cons_succ, Option.some.injEq] at ho hd
        subst ho hd
        have r46 : a.eval (.tmp 46) = .int .u8 k := (hdep ⟨3, .data⟩ (by simp) rfl).2 46 rfl
        rw [Vals.eval_tmp] at r46
        have r47 : a.eval (.tmp 47) = .agg #[.int .u32 x0, .int .u32 x1, .int .u16 x2, .int .u16 x3, .int .u32 x4, .slice a5 cl c5] := (hdep ⟨4, .data⟩ (by simp) rfl).2 47 rfl
        rw [Vals.eval_tmp] at r47
        have hq0 := Vals.jnot hun (fun h => hcl 10 _ rfl h ⟨5, .phase⟩ (by simp) rfl)
        replace hJ := hJ.1 hq0
        refine Vals.wpOp_run ho' rfl ?_
        clear hdep hfr ho' hdf hcl
        go_simp
        refine (isInit_any k x0 x1 x2 x3 x4 a5 cl c5 W).mono ?_
        rintro e w' ⟨rfl, hb3⟩
        exact hK _ _ (GInj_mono hb3) (Vals.jnew hq0 (by decide) (hJ.trans (hb3.mono hJ.size))) (fun _ => by show Value.bool _ = Value.bool _; rw [HVV.out])
      | 6, ho, hd =>
        have ho' := ho
        simp only [List.getElem?_toArray, List.getElem?_cons_zero, List.getElem?_cons_succ, Option.some.injEq] at ho hd
        subst ho hd
        have r1 : a.eval (.tmp 1) = .pointer (some ⟨w.heap.size, 0, none⟩) := hfr 1 (by decide)
        rw [Vals.eval_tmp] at r1
        have hq0 := Vals.jnot hun (fun h => hcl 10 _ rfl h ⟨6, .phase⟩ (by simp) rfl)
        replace hJ := hJ.1 hq0
        have hmf : ∀ (fn : Fn) (first cap : Array Value) (w : World), (Instr.makeFunc fn first cap).run Try.prog w = .ok (.func fn first cap) w := fun _ _ _ _ => rfl
        refine Vals.wpOp_run ho' rfl ?_
        clear hdep hfr ho' hdf hcl
        go_simp
        exact hK _ _ (fun _ _ h => h) (Vals.jnew hq0 (by decide) hJ) (fun _ => rfl)
      | 7, ho, hd =>
        have ho' := ho
        simp only [List.getElem?_toArray, List.getElem?_cons_zero, List.getElem?_cons_succ, Option.some.injEq] at ho hd
        subst ho hd
        have r43 : a.eval (.tmp 43) = .agg #[.int .u8 k, .int .u8 f, .slice p n c] := (hdep ⟨0, .data⟩ (by simp) rfl).2 43 rfl
        rw [Vals.eval_tmp] at r43
        have r44 : a.eval (.tmp 44) = .agg #[.int .u32 x0, .int .u32 x1, .int .u16 x2, .int .u16 x3, .int .u32 x4, .slice a5 cl c5] := (hdep ⟨1, .data⟩ (by simp) rfl).2 44 rfl
        rw [Vals.eval_tmp] at r44
        have r48 : a.eval (.tmp 48) = .bool vv := (hdep ⟨5, .data⟩ (by simp) rfl).2 48 rfl
        rw [Vals.eval_tmp] at r48
        have r49 : a.eval (.tmp 49) = .func (.func 61) #[] #[.pointer (some ⟨w.heap.size, 0, none⟩)] := (hdep ⟨6, .data⟩ (by simp) rfl).2 49 rfl
        rw [Vals.eval_tmp] at r49
        have hq0 := Vals.jnot hun (fun h => hcl 10 _ rfl h ⟨7, .phase⟩ (by simp) rfl)
        replace hJ := hJ.1 hq0
        refine Vals.wpOp_run ho' rfl ?_
        clear hdep hfr ho' hdf hcl
        go_simp
        refine (HCK.out W hJ).mono ?_
        rintro e w' ⟨hch, hb3⟩
        obtain rfl := HYY.out e hch
        exact hK _ _ (GInj_mono hb3) (Vals.jnew hq0 (by decide) (hJ.trans (hb3.mono hJ.size))) (fun _ => rfl)
      | 8, ho, hd =>
        have ho' := ho
        simp only [List.getElem?_toArray, List.getElem?_cons_zero, List.getElem?_cons_succ, Option.some.injEq] at ho hd
        subst ho hd
        have r50 : a.eval (.tmp 50) = .tuple #[.agg #[.int .u32 y0, .int .u32 y1, .int .u16 y2, .int .u16 y3, .int .u32 y4, .slice ya yn yc], .int .i64 er] := (hdep ⟨7, .data⟩ (by simp) rfl).2 50 rfl
        rw [Vals.eval_tmp] at r50
        have hq0 := Vals.jnot hun (fun h => hcl 10 _ rfl h ⟨8, .phase⟩ (by simp) rfl)
        replace hJ := hJ.1 hq0
        refine Vals.wpOp_run ho' rfl ?_
        clear hdep hfr ho' hdf hcl
        go_simp
        exact hK _ _ (fun _ _ h => h) (Vals.jnew hq0 (by decide) hJ) (fun _ => rfl)
      | 9, ho, hd =>
        have ho' := ho
        simp only [List.getElem?_toArray, List.getElem?_cons_zero, List.getElem?_cons_succ, Option.some.injEq] at ho hd
        subst ho hd
        have r50 : a.eval (.tmp 50) = .tuple #[.agg #[.int .u32 y0, .int .u32 y1, .int .u16 y2, .int .u16 y3, .int .u32 y4, .slice ya yn yc], .int .i64 er] := (hdep ⟨7, .data⟩ (by simp) rfl).2 50 rfl
        rw [Vals.eval_tmp] at r50
        have hq0 := Vals.jnot hun (fun h => hcl 10 _ rfl h ⟨9, .phase⟩ (by simp) rfl)
        replace hJ := hJ.1 hq0
        refine Vals.wpOp_run ho' rfl ?_
        clear hdep hfr ho' hdf hcl
        go_simp
        exact hK _ _ (fun _ _ h => h) (Vals.jnew hq0 (by decide) hJ) (fun _ => rfl)
      | 10, ho, hd =>
        have ho' := ho
        simp only [List.getElem?_toArray, List.getElem?_cons_zero, List.getElem?_cons_succ, Option.some.injEq] at ho hd
        subst ho hd
        have r2 : a.eval (.tmp 2) = .pointer (some ⟨w.heap.size + 1, 0, none⟩) := hfr 2 (by decide)
        rw [Vals.eval_tmp] at r2
        have r51 : a.eval (.tmp 51) = .agg #[.int .u32 y0, .int .u32 y1, .int .u16 y2, .int .u16 y3, .int .u32 y4, .slice ya yn yc] := (hdep ⟨8, .data⟩ (by simp) rfl).2 51 rfl
        rw [Vals.eval_tmp] at r51
        have hJ0 := hJ
        replace hJ := hJ.1 (Vals.getD_true_false hun)
        refine Vals.wpOp_run ho' rfl ?_
        clear hdep hfr ho' hdf hcl
        have hzz := HZ6.out.keep hJ
        have fr0 := hzz.free 0
        have fr1 := hzz.free 1
        have fr2 := hzz.free 2
        have fr3 := hzz.free 3
        have fr4 := hzz.free 4
        have fr5 := hzz.free 5
        have y0 := hzz.cell (i := 0) rfl
        have y1 := hzz.cell (i := 1) rfl
        have y2 := hzz.cell (i := 2) rfl
        have y3 := hzz.cell (i := 3) rfl
        have y4 := hzz.cell (i := 4) rfl
        have y5 := hzz.cell (i := 5) rfl
        go_simp
        exact hK (.slice none 0 0) _ GInj_any ⟨fun h => absurd (Vals.jself2 (by rw [hls]; decide) h) (fun h => h), fun _ => HST.out W hJ⟩ (fun h => by cases h)
      | 11, ho, hd =>
        have ho' := ho
        simp only [List.getElem?_toArray, List.getElem?_cons_zero, List.getElem?_cons_succ, Option.some.injEq] at ho hd
        subst ho hd
        have r52 : a.eval (.tmp 52) = .int .i64 er := (hdep ⟨9, .data⟩ (by simp) rfl).2 52 rfl
        rw [Vals.eval_tmp] at r52
        refine Vals.wpOp_run ho' rfl ?_
        clear hdep hfr ho' hdf hcl
        go_simp
        exact hK _ _ (fun _ _ h => h) (Vals.jkeep hJ (by decide)) (fun _ => rfl)
      | i + 12, ho, hd => simp at ho
    case fin5 =>
      intro listed W fq2 hall hJ hG
      have hF := hJ.2 (hall 10 (by decide))
      have q0 : fq2 43 = .agg #[.int .u8 k, .int .u8 f, .slice p n c] := hG 0 43 rfl
      have q1 : fq2 44 = .agg #[.int .u32 x0, .int .u32 x1, .int .u16 x2, .int .u16 x3, .int .u32 x4, .slice a5 cl c5] := hG 1 44 rfl
      have q2 : fq2 45 = .pointer (some ⟨w.heap.size, 0, none⟩) := hG 2 45 rfl
      have q3 : fq2 46 = .int .u8 k := hG 3 46 rfl
      have q4 : fq2 47 = .agg #[.int .u32 x0, .int .u32 x1, .int .u16 x2, .int .u16 x3, .int .u32 x4, .slice a5 cl c5] := hG 4 47 rfl
      have q5 : fq2 48 = .bool vv := hG 5 48 rfl
      have q6 : fq2 49 = .func (.func 61) #[] #[.pointer (some ⟨w.heap.size, 0, none⟩)] := hG 6 49 rfl
      have q7 : fq2 50 = .tuple #[.agg #[.int .u32 y0, .int .u32 y1, .int .u16 y2, .int .u16 y3, .int .u32 y4, .slice ya yn yc], .int .i64 er] := hG 7 50 rfl
      have q8 : fq2 51 = .agg #[.int .u32 y0, .int .u32 y1, .int .u16 y2, .int .u16 y3, .int .u32 y4, .slice ya yn yc] := hG 8 51 rfl
      have q9 : fq2 52 = .int .i64 er := hG 9 52 rfl
      have q11 : fq2 3 = .int .i64 er := hG 11 3 rfl
      clear hG hall
      simp only [Vals.puts, Vals.pairs, List.filterMap_cons, List.filterMap_nil, id, List.map_cons, List.map_nil, List.foldl_cons, List.foldl_nil, q0, q1, q2, q3, q4, q5, q6, q7, q8, q9, q11]
      clear q0 q1 q2 q3 q4 q5 q6 q7 q8 q9 q11
      go_frame
      have zz0 := hF.1.cell (i := 0) rfl
      have zz1 := hF.1.cell (i := 1) rfl
      have zz2 := hF.1.cell (i := 2) rfl
      have zz3 := hF.1.cell (i := 3) rfl
      have zz4 := hF.1.cell (i := 4) rfl
      have zz5 := hF.1.cell (i := 5) rfl
      have HE := Lib.hid hF.2
      clear hF hJ HCK HST HZ6 HC6 HA6 HR6 HRW6 HBV
      go_wp2
      refine bodyPost_ret (by simp [results, Try.results24, go_sem, zz0, zz1, zz2, zz3, zz4, zz5] <;> rfl) rfl ?_
      obtain ⟨hy0, hy1, hy2, hy3, hy4, hya, hyn, hyc, her⟩ := HY.out
      obtain ⟨hck, hcl0⟩ := HCKL.out
      have hvv := HVV.out
      have hbb := HBB.out
      rw [hcl0] at hvv
      rw [hvv, hck] at hbb
      refine ⟨a5, c5, ?_, HE.out.1, ?_⟩
      · cases bb with
        | false => exact .inr ⟨hbb.symm, by rw [hy0, hy1, hy2, hy3, hy4, hya, hyn, hyc, her]; rfl⟩
        | true => exact .inl ⟨hbb.symm, by rw [hy0, hy1, hy2, hy3, hy4, hya, hyn, hyc, her, hcl0]; rfl⟩
      · have h := HE.out.2
        rw [hcl0, hck] at h
        exact h

/-- What the operations of the drawn region leave behind. -/
def GInR (w wE : World) (k f x0 x1 x2 x3 x4 : Int) (p : Option Addr) (n c : Nat) (i : Nat) (v : Value) (W : World) : Prop := match i with | 0 => v = .pointer (some ⟨w.heap.size, 2, none⟩) | 1 => v = .slice p n c | 2 => v = .int .u64 x0 | 3 => v = .int .u32 x0 | 4 => v = .pointer (some ⟨w.heap.size, 2, none⟩) | 5 => v = .slice p n c | 6 => v = .int .u64 x1 | 7 => v = .int .u32 x1 | 8 => v = .pointer (some ⟨w.heap.size, 2, none⟩) | 9 => v = .slice p n c | 10 => v = .int .u64 x2 | 11 => v = .int .u16 x2 | 12 => v = .pointer (some ⟨w.heap.size, 2, none⟩) | 13 => v = .slice p n c | 14 => v = .int .u64 x3 | 15 => v = .int .u16 x3 | 16 => v = .pointer (some ⟨w.heap.size, 2, none⟩) | 17 => v = .slice p n c | 18 => v = .int .u64 x4 | 19 => v = .int .u32 x4 | 20 => v = .agg #[.int .u32 x0, .int .u32 x1, .int .u16 x2, .int .u16 x3, .int .u32 x4, .slice none 0 0] | 21 => ∃ gn, v = .pointer (some ⟨gn, 0, none⟩) ∧ wE.heap.size ≤ gn ∧ Arr W gn 43 [.int .u32 0, .int .u32 0, .int .u16 0, .int .u16 0, .int .u32 0, .slice none 0 0] | _ => True
theorem GInR_mono {w wE : World} {k f x0 x1 x2 x3 x4 : Int} {p : Option Addr} {n c : Nat} {W W' : World} (hb : Below W.heap.size W W') (j : Nat) (x : Value) (h : GInR w wE k f x0 x1 x2 x3 x4 p n c j x W) : GInR w wE k f x0 x1 x2 x3 x4 p n c j x W' := by
  unfold GInR at h ⊢
  split at h <;> try exact h
  · obtain ⟨gn, e0, h0_0, h0_1⟩ := h
    exact ⟨gn, e0, h0_0, h0_1.keep hb⟩

/-- What the operations of the drawn region leave behind. -/
def GInS (w : World) (gn : Nat) (k f x0 x1 x2 x3 x4 : Int) (p : Option Addr) (n c : Nat) (a5 : Option Addr) (cl c5 : Nat) (ck : List Int) (bb : Bool) (i : Nat) (v : Value) (W : World) : Prop := match i with | 0 => v = .pointer (some ⟨gn, 0, none⟩) | 1 => v = .int .u32 x0 | 2 => v = .bool false | 3 => v = .bool false | 4 => v = .pointer (some ⟨gn, 2, none⟩) | 5 => v = .int .u16 x2 | 6 => v = .bool false | 7 => v = .bool false | 8 => v = .bool false | 9 => v = .pointer (some ⟨gn, 3, none⟩) | 10 => v = .int .u16 x3 | 11 => v = .bool false | 12 => v = .bool false | 13 => v = .bool false | 14 => v = .pointer (some ⟨w.heap.size, 0, none⟩) | 15 => v = .int .u8 k | 16 => v = .agg #[.int .u32 x0, .int .u32 x1, .int .u16 x2, .int .u16 x3, .int .u32 x4, .slice a5 cl c5] | 17 => ∃ a1 c1, v = .agg #[.int .u8 k, .int .u8 0, .slice a1 (initB k x0 x1 x2 x3 x4 ck).length c1] ∧ Reads W a1 (initB k x0 x1 x2 x3 x4 ck).length (initB k x0 x1 x2 x3 x4 ck) | 18 => v = .agg #[.int .u8 k, .int .u8 f, .slice p n c] | 19 => v = .bool bb | 20 => v = .bool (!bb) | 21 => v = .bool (!bb) | _ => True
theorem GInS_mono {w : World} {gn : Nat} {k f x0 x1 x2 x3 x4 : Int} {p : Option Addr} {n c : Nat} {a5 : Option Addr} {cl c5 : Nat} {ck : List Int} {bb : Bool} {W W' : World} (hb : Below W.heap.size W W') (j : Nat) (x : Value) (h : GInS w gn k f x0 x1 x2 x3 x4 p n c a5 cl c5 ck bb j x W) : GInS w gn k f x0 x1 x2 x3 x4 p n c a5 cl c5 ck bb j x W' := by
  unfold GInS at h ⊢
  split at h <;> try exact h
  · obtain ⟨a1, c1, e0, h0_0⟩ := h
    exact ⟨a1, c1, e0, h0_0.below hb⟩

set_option maxRecDepth 100000 in
set_option maxHeartbeats 1600000 in
theorem rgetInit_ack (f : Int) (p : Option Addr) (n c : Nat) (zs : List Int) (w : World) (hr : Reads w p n zs) (hz : Byt zs) (hc : n ≤ c) (hn : n ≤ 281474976) (x0 : Int) (hxx0 : natAt zs 0 4 = x0) (x1 : Int) (hxx1 : natAt zs 4 4 = x1) (x2 : Int) (hxx2 : natAt zs 8 2 = x2) (x3 : Int) (hxx3 : natAt zs 10 2 = x3) (x4 : Int) (hxx4 : natAt zs 12 4 = x4) (x5 : Int) (hxx5 : natAt zs 18 2 = x5) (hm : 16 ≤ n) :
    Calls Try.prog 25 #[.agg #[.int .u8 2, .int .u8 f, .slice p n c]] w fun e w' => ∃ a1 c1, Chose (initOk 2 x0 x2 x3 (ckOf zs x5).length && eqC 2 0 (initB 2 x0 x1 x2 x3 x4 (ckOf zs x5)) 2 f zs) (.agg #[.int .u32 x0, .int .u32 x1, .int .u16 x2, .int .u16 x3, .int .u32 x4, .slice a1 ((ckOf zs x5).length) c1]) (.agg #[.int .u32 0, .int .u32 0, .int .u16 0, .int .u16 0, .int .u32 0, .slice none 0 0]) e ∧ Below w.heap.size w w' ∧ Row8 w.heap.size w' a1 ((ckOf zs x5).length) c1 (ckOf zs x5) := by
  have HNx0 := Lib.hid (show ∀ W, Reads W p n zs → Calls Try.prog 53 #[.slice p n c, .int .i64 0, .int .i64 4] W fun e w' => e = .returned (.int .u64 x0) ∧ Below W.heap.size W w' from fun W h => hxx0 ▸ numR_any p n c 0 4 zs W h hz hc (by omega) (by omega) rfl)
  obtain ⟨lox0, hix0⟩ : 0 ≤ x0 ∧ x0 < 4294967296 := hxx0 ▸ natAt4 hz 0
  have HNx1 := Lib.hid (show ∀ W, Reads W p n zs → Calls Try.prog 53 #[.slice p n c, .int .i64 4, .int .i64 4] W fun e w' => e = .returned (.int .u64 x1) ∧ Below W.heap.size W w' from fun W h => hxx1 ▸ numR_any p n c 4 4 zs W h hz hc (by omega) (by omega) rfl)
  obtain ⟨lox1, hix1⟩ : 0 ≤ x1 ∧ x1 < 4294967296 := hxx1 ▸ natAt4 hz 4
  have HNx2 := Lib.hid (show ∀ W, Reads W p n zs → Calls Try.prog 53 #[.slice p n c, .int .i64 8, .int .i64 2] W fun e w' => e = .returned (.int .u64 x2) ∧ Below W.heap.size W w' from fun W h => hxx2 ▸ numR_any p n c 8 2 zs W h hz hc (by omega) (by omega) rfl)
  obtain ⟨lox2, hix2⟩ : 0 ≤ x2 ∧ x2 < 65536 := hxx2 ▸ natAt2 hz 8
  have HNx3 := Lib.hid (show ∀ W, Reads W p n zs → Calls Try.prog 53 #[.slice p n c, .int .i64 10, .int .i64 2] W fun e w' => e = .returned (.int .u64 x3) ∧ Below W.heap.size W w' from fun W h => hxx3 ▸ numR_any p n c 10 2 zs W h hz hc (by omega) (by omega) rfl)
  obtain ⟨lox3, hix3⟩ : 0 ≤ x3 ∧ x3 < 65536 := hxx3 ▸ natAt2 hz 10
  have HNx4 := Lib.hid (show ∀ W, Reads W p n zs → Calls Try.prog 53 #[.slice p n c, .int .i64 12, .int .i64 4] W fun e w' => e = .returned (.int .u64 x4) ∧ Below W.heap.size W w' from fun W h => hxx4 ▸ numR_any p n c 12 4 zs W h hz hc (by omega) (by omega) rfl)
  obtain ⟨lox4, hix4⟩ : 0 ≤ x4 ∧ x4 < 4294967296 := hxx4 ▸ natAt4 hz 12
  have HNx5 := Lib.hid (show ∀ W, Reads W p n zs → Calls Try.prog 53 #[.slice p n c, .int .i64 18, .int .i64 2] W fun e w' => e = .returned (.int .u64 x5) ∧ Below W.heap.size W w' from fun W h => hxx5 ▸ numR_any p n c 18 2 zs W h hz hc (by omega) (by omega) rfl)
  obtain ⟨lox5, hix5⟩ : 0 ≤ x5 ∧ x5 < 65536 := hxx5 ▸ natAt2 hz 18
  obtain ⟨wa, hwa⟩ : ∃ wa, w.alloc (.cells #[.int .u8 2, .int .u8 f, .slice p n c] 28) = wa := ⟨_, rfl⟩
  have hba : Below w.heap.size w wa := by rw [← hwa]; exact chunkBelow w 2 f _
  have hsa : wa.heap.size = w.heap.size + 1 := by rw [← hwa]; simp
  have hca : Arr wa w.heap.size 28 [.int .u8 2, .int .u8 f, .slice p n c] := by rw [← hwa]; exact chunkBox w 2 f _
  obtain ⟨wE, hwE⟩ : ∃ wE, wa.alloc (.cells #[.int .u32 0, .int .u32 0, .int .u16 0, .int .u16 0, .int .u32 0, .slice none 0 0] 43) = wE := ⟨_, rfl⟩
  have hbE0 : Below wa.heap.size wa wE := by rw [← hwE]; exact (Below.refl _ _).alloc (Nat.le_refl _) _
  have hsE : wE.heap.size = w.heap.size + 2 := by rw [← hwE]; simp; omega
  have hzE : Arr wE (w.heap.size + 1) 43 [.int .u32 0, .int .u32 0, .int .u16 0, .int .u16 0, .int .u32 0, .slice none 0 0] := by rw [← hwE, ← hsa]; exact arr_new _ _ _
  have hcE := hca.keep hbE0
  have hbE := hba.trans (hbE0.mono hba.size)
  have hr2 := hr.below hbE
  have hmi : ¬ (n : Int) < 16 := by omega
  have HRW := Lib.hid (show ∀ W, Below wE.heap.size wE W → Reads W p n zs from fun W h => hr2.below h)
  have HC := Lib.hid hcE
  have HZ := Lib.hid hzE
  have HBE := Lib.hid (And.intro hbE hsE)
  have cc0 := hcE.cell (i := 0) rfl
  have cc1 := hcE.cell (i := 1) rfl
  have cc2 := hcE.cell (i := 2) rfl
  clear hba hca hbE0 hzE hcE hbE hr hr2 hxx0 hxx1 hxx2 hxx3 hxx4 hxx5
  go_enter Try.func25, Try.ntmps25
  go_wp2_with fail
  clear cc0 cc1 cc2
  refine wp_region_any (by kernel_rfl) ?_
  refine Vals.wpAny_goodLast (GInR w wE 2 f x0 x1 x2 x3 x4 p n c) (fun W => Below wE.heap.size wE W) [some 23, some 24, some 25, some 26, some 27, some 28, some 29, some 30, some 31, some 32, some 33, some 34, some 35, some 36, some 37, some 38, some 39, some 40, some 41, some 42, some 43, some 4, none] 22 92 _ _ rfl (by kernel_rfl) (by kernel_rfl) (by kernel_rfl) (by decide) rfl ?step ?fin (Below.refl _ _).drew
  case step =>
    intro i o d ho hd hiN a W hJ hdf hdep hfr K hK
    match i, ho, hd with
    | 0, ho, hd =>
      have ho' := ho
      simp only [List.getElem?_toArray, List.getElem?_cons_zero, Option.some.injEq] at ho hd
      subst ho hd
      have r1 : a.eval (.tmp 1) = .pointer (some ⟨w.heap.size, 0, none⟩) := hfr 1 (by decide)
      rw [Vals.eval_tmp] at r1
      refine Vals.wpOp_run ho' rfl ?_
      clear hdep hfr ho' hdf
      go_simp
      exact hK _ _ (fun _ _ h => h) hJ (fun _ => rfl)
    | 1, ho, hd =>
      have ho' := ho
      simp only [List.getElem?_toArray, List.getElem?_cons_zero, List.getElem?_cons_succ, Option.some.injEq] at ho hd
      subst ho hd
      have r23 : a.eval (.tmp 23) = .pointer (some ⟨w.heap.size, 2, none⟩) := hdep ⟨0, .data⟩ (by simp) rfl 23 rfl
      rw [Vals.eval_tmp] at r23
      have c0 := (HC.out.keep hJ).cell (i := 2) rfl
      refine Vals.wpOp_run ho' rfl ?_
      clear hdep hfr ho' hdf
      go_simp
      exact hK _ _ (fun _ _ h => h) hJ (fun _ => rfl)
    | 2, ho, hd =>
      have ho' := ho
      simp only [List.getElem?_toArray, List.getElem?_cons_zero, List.getElem?_cons_succ, Option.some.injEq] at ho hd
      subst ho hd
      have r24 : a.eval (.tmp 24) = .slice p n c := hdep ⟨1, .data⟩ (by simp) rfl 24 rfl
      rw [Vals.eval_tmp] at r24
      refine Vals.wpOp_run ho' rfl ?_
      clear hdep hfr ho' hdf
      go_simp
      refine (HNx0.out W (HRW.out W hJ)).mono ?_
      rintro e w' ⟨rfl, hb3⟩
      exact hK _ _ (GInR_mono hb3) (hJ.trans (hb3.mono hJ.size)) (fun _ => rfl)
    | 3, ho, hd =>
      have ho' := ho
      simp only [List.getElem?_toArray, List.getElem?_cons_zero, List.getElem?_cons_succ, Option.some.injEq] at ho hd
      subst ho hd
      have r25 : a.eval (.tmp 25) = .int .u64 x0 := hdep ⟨2, .data⟩ (by simp) rfl 25 rfl
      rw [Vals.eval_tmp] at r25
      refine Vals.wpOp_run ho' rfl ?_
      clear hdep hfr ho' hdf
      go_simp
      exact hK _ _ (fun _ _ h => h) hJ (fun _ => (by first | rfl | exact congrArg (Value.int _) (Int.emod_eq_of_lt (by assumption) (by assumption))))
    | 4, ho, hd =>
      have ho' := ho
      simp only [List.getElem?_toArray, List.getElem?_cons_zero, List.getElem?_cons_succ, Option.some.injEq] at ho hd
      subst ho hd
      have r1 : a.eval (.tmp 1) = .pointer (some ⟨w.heap.size, 0, none⟩) := hfr 1 (by decide)
      rw [Vals.eval_tmp] at r1
      refine Vals.wpOp_run ho' rfl ?_
      clear hdep hfr ho' hdf
      go_simp
      exact hK _ _ (fun _ _ h => h) hJ (fun _ => rfl)
    | 5, ho, hd =>
      have ho' := ho
      simp only [List.getElem?_toArray, List.getElem?_cons_zero, List.getElem?_cons_succ, Option.some.injEq] at ho hd
      subst ho hd
      have r27 : a.eval (.tmp 27) = .pointer (some ⟨w.heap.size, 2, none⟩) := hdep ⟨4, .data⟩ (by simp) rfl 27 rfl
      rw [Vals.eval_tmp] at r27
      have c0 := (HC.out.keep hJ).cell (i := 2) rfl
      refine Vals.wpOp_run ho' rfl ?_
      clear hdep hfr ho' hdf
      go_simp
      exact hK _ _ (fun _ _ h => h) hJ (fun _ => rfl)
    | 6, ho, hd =>
      have ho' := ho
      simp only [List.getElem?_toArray, List.getElem?_cons_zero, List.getElem?_cons_succ, Option.some.injEq] at ho hd
      subst ho hd
      have r28 : a.eval (.tmp 28) = .slice p n c := hdep ⟨5, .data⟩ (by simp) rfl 28 rfl
      rw [Vals.eval_tmp] at r28
      refine Vals.wpOp_run ho' rfl ?_
      clear hdep hfr ho' hdf
      go_simp
      refine (HNx1.out W (HRW.out W hJ)).mono ?_
      rintro e w' ⟨rfl, hb3⟩
      exact hK _ _ (GInR_mono hb3) (hJ.trans (hb3.mono hJ.size)) (fun _ => rfl)
    | 7, ho, hd =>
      have ho' := ho
      simp only [List.getElem?_toArray, List.getElem?_cons_zero, List.getElem?_cons_succ, Option.some.injEq] at ho hd
      subst ho hd
      have r29 : a.eval (.tmp 29) = .int .u64 x1 := hdep ⟨6, .data⟩ (by simp) rfl 29 rfl
      rw [Vals.eval_tmp] at r29
      refine Vals.wpOp_run ho' rfl ?_
      clear hdep hfr ho' hdf
      go_simp
      exact hK _ _ (fun _ _ h => h) hJ (fun _ => (by first | rfl | exact congrArg (Value.int _) (Int.emod_eq_of_lt (by assumption) (by assumption))))
    | 8, ho, hd =>
      have ho' := ho
      simp only [List.getElem?_toArray, List.getElem?_cons_zero, List.getElem?_cons_succ, Option.some.injEq] at ho hd
      subst ho hd
      have r1 : a.eval (.tmp 1) = .pointer (some ⟨w.heap.size, 0, none⟩) := hfr 1 (by decide)
      rw [Vals.eval_tmp] at r1
      refine Vals.wpOp_run ho' rfl ?_
      clear hdep hfr ho' hdf
      go_simp
      exact hK _ _ (fun _ _ h => h) hJ (fun _ => rfl)
    | 9, ho, hd =>
      have ho' := ho
      simp only [List.getElem?_toArray, List.getElem?_cons_zero, List.getElem?_cons_succ, Option.some.injEq] at ho hd
      subst ho hd
      have r31 : a.eval (.tmp 31) = .pointer (some ⟨w.heap.size, 2, none⟩) := hdep ⟨8, .data⟩ (by simp) rfl 31 rfl
      rw [Vals.eval_tmp] at r31
      have c0 := (HC.out.keep hJ).cell (i := 2) rfl
      refine Vals.wpOp_run ho' rfl ?_
      clear hdep hfr ho' hdf
      go_simp
      exact hK _ _ (fun _ _ h => h) hJ (fun _ => rfl)
    | 10, ho, hd =>
      have ho' := ho
      simp only [List.getElem?_toArray, List.getElem?_cons_zero, List.getElem?_cons_succ, Option.some.injEq] at ho hd
      subst ho hd
      have r32 : a.eval (.tmp 32) = .slice p n c := hdep ⟨9, .data⟩ (by simp) rfl 32 rfl
      rw [Vals.eval_tmp] at r32
      refine Vals.wpOp_run ho' rfl ?_
      clear hdep hfr ho' hdf
      go_simp
      refine (HNx2.out W (HRW.out W hJ)).mono ?_
      rintro e w' ⟨rfl, hb3⟩
      exact hK _ _ (GInR_mono hb3) (hJ.trans (hb3.mono hJ.size)) (fun _ => rfl)
    | 11, ho, hd =>
      have ho' := ho
      simp only [List.getElem?_toArray, List.getElem?_cons_zero, List.getElem?_cons_succ, Option.some.injEq] at ho hd
      subst ho hd
      have r33 : a.eval (.tmp 33) = .int .u64 x2 := hdep ⟨10, .data⟩ (by simp) rfl 33 rfl
      rw [Vals.eval_tmp] at r33
      refine Vals.wpOp_run ho' rfl ?_
      clear hdep hfr ho' hdf
      go_simp
      exact hK _ _ (fun _ _ h => h) hJ (fun _ => (by first | rfl | exact congrArg (Value.int _) (Int.emod_eq_of_lt (by assumption) (by assumption))))
    | 12, ho, hd =>
      have ho' := ho
      simp only [List.getElem?_toArray, List.getElem?_cons_zero, List.getElem?_cons_succ, Option.some.injEq] at ho hd
      subst ho hd
      have r1 : a.eval (.tmp 1) = .pointer (some ⟨w.heap.size, 0, none⟩) := hfr 1 (by decide)
      rw [Vals.eval_tmp] at r1
      refine Vals.wpOp_run ho' rfl ?_
      clear hdep hfr ho' hdf
      go_simp
      exact hK _ _ (fun _ _ h => h) hJ (fun _ => rfl)
    | 13, ho, hd =>
      have ho' := ho
      simp only [List.getElem?_toArray, List.getElem?_cons_zero, List.getElem?_cons_succ, Option.some.injEq] at ho hd
      subst ho hd
      have r35 : a.eval (.tmp 35) = .pointer (some ⟨w.heap.size, 2, none⟩) := hdep ⟨12, .data⟩ (by simp) rfl 35 rfl
      rw [Vals.eval_tmp] at r35
      have c0 := (HC.out.keep hJ).cell (i := 2) rfl
      refine Vals.wpOp_run ho' rfl ?_
      clear hdep hfr ho' hdf
      go_simp
      exact hK _ _ (fun _ _ h => h) hJ (fun _ => rfl)
    | 14, ho, hd =>
      have ho' := ho
      simp only [List.getElem?_toArray, List.getElem?_cons_zero, List.getElem?_cons_succ, Option.some.injEq] at ho hd
      subst ho hd
      have r36 : a.eval (.tmp 36) = .slice p n c := hdep ⟨13, .data⟩ (by simp) rfl 36 rfl
      rw [Vals.eval_tmp] at r36
      refine Vals.wpOp_run ho' rfl ?_
      clear hdep hfr ho' hdf
      go_simp
      refine (HNx3.out W (HRW.out W hJ)).mono ?_
      rintro e w' ⟨rfl, hb3⟩
      exact hK _ _ (GInR_mono hb3) (hJ.trans (hb3.mono hJ.size)) (fun _ => rfl)
    | 15, ho, hd =>
      have ho' := ho
      simp only [List.getElem?_toArray, List.getElem?_cons_zero, List.getElem?_cons_succ, Option.some.injEq] at ho hd
      subst ho hd
      have r37 : a.eval (.tmp 37) = .int .u64 x3 := hdep ⟨14, .data⟩ (by simp) rfl 37 rfl
      rw [Vals.eval_tmp] at r37
      refine Vals.wpOp_run ho' rfl ?_
      clear hdep hfr ho' hdf
      go_simp
      exact hK _ _ (fun _ _ h => h) hJ (fun _ => (by first | rfl | exact congrArg (Value.int _) (Int.emod_eq_of_lt (by assumption) (by assumption))))
    | 16, ho, hd =>
      have ho' := ho
      simp only [List.getElem?_toArray, List.getElem?_cons_zero, List.getElem?_cons_succ, Option.some.injEq] at ho hd
      subst ho hd
      have r1 : a.eval (.tmp 1) = .pointer (some ⟨w.heap.size, 0, none⟩) := hfr 1 (by decide)
      rw [Vals.eval_tmp] at r1
      refine Vals.wpOp_run ho' rfl ?_
      clear hdep hfr ho' hdf
      go_simp
      exact hK _ _ (fun _ _ h => h) hJ (fun _ => rfl)
    | 17, ho, hd =>
      have ho' := ho
      simp only [List.getElem?_toArray, List.getElem?_cons_zero, List.getElem?_cons_succ, Option.some.injEq] at ho hd
      subst ho hd
      have r39 : a.eval (.tmp 39) = .pointer (some ⟨w.heap.size, 2, none⟩) := hdep ⟨16, .data⟩ (by simp) rfl 39 rfl
      rw [Vals.eval_tmp] at r39
      have c0 := (HC.out.keep hJ).cell (i := 2) rfl
      refine Vals.wpOp_run ho' rfl ?_
      clear hdep hfr ho' hdf
      go_simp
      exact hK _ _ (fun _ _ h => h) hJ (fun _ => rfl)
    | 18, ho, hd =>
      have ho' := ho
      simp only [List.getElem?_toArray, List.getElem?_cons_zero, List.getElem?_cons_succ, Option.some.injEq] at ho hd
      subst ho hd
      have r40 : a.eval (.tmp 40) = .slice p n c := hdep ⟨17, .data⟩ (by simp) rfl 40 rfl
      rw [Vals.eval_tmp] at r40
      refine Vals.wpOp_run ho' rfl ?_
      clear hdep hfr ho' hdf
      go_simp
      refine (HNx4.out W (HRW.out W hJ)).mono ?_
      rintro e w' ⟨rfl, hb3⟩
      exact hK _ _ (GInR_mono hb3) (hJ.trans (hb3.mono hJ.size)) (fun _ => rfl)
    | 19, ho, hd =>
      have ho' := ho
      simp only [List.getElem?_toArray, List.getElem?_cons_zero, List.getElem?_cons_succ, Option.some.injEq] at ho hd
      subst ho hd
      have r41 : a.eval (.tmp 41) = .int .u64 x4 := hdep ⟨18, .data⟩ (by simp) rfl 41 rfl
      rw [Vals.eval_tmp] at r41
      refine Vals.wpOp_run ho' rfl ?_
      clear hdep hfr ho' hdf
      go_simp
      exact hK _ _ (fun _ _ h => h) hJ (fun _ => (by first | rfl | exact congrArg (Value.int _) (Int.emod_eq_of_lt (by assumption) (by assumption))))
    | 20, ho, hd =>
      have ho' := ho
      simp only [List.getElem?_toArray, List.getElem?_cons_zero, List.getElem?_cons_succ, Option.some.injEq] at ho hd
      subst ho hd
      have r26 : a.eval (.tmp 26) = .int .u32 x0 := hdep ⟨3, .data⟩ (by simp) rfl 26 rfl
      rw [Vals.eval_tmp] at r26
      have r30 : a.eval (.tmp 30) = .int .u32 x1 := hdep ⟨7, .data⟩ (by simp) rfl 30 rfl
      rw [Vals.eval_tmp] at r30
      have r34 : a.eval (.tmp 34) = .int .u16 x2 := hdep ⟨11, .data⟩ (by simp) rfl 34 rfl
      rw [Vals.eval_tmp] at r34
      have r38 : a.eval (.tmp 38) = .int .u16 x3 := hdep ⟨15, .data⟩ (by simp) rfl 38 rfl
      rw [Vals.eval_tmp] at r38
      have r42 : a.eval (.tmp 42) = .int .u32 x4 := hdep ⟨19, .data⟩ (by simp) rfl 42 rfl
      rw [Vals.eval_tmp] at r42
      refine Vals.wpOp_run ho' rfl ?_
      clear hdep hfr ho' hdf
      go_simp
      exact hK _ _ (fun _ _ h => h) hJ (fun _ => rfl)
    | 21, ho, hd =>
      have ho' := ho
      simp only [List.getElem?_toArray, List.getElem?_cons_zero, List.getElem?_cons_succ, Option.some.injEq] at ho hd
      subst ho hd
      refine Vals.wpOp_run ho' rfl ?_
      clear hdep hfr ho' hdf
      go_simp
      have hb3 : Below W.heap.size W (W.alloc (.cells #[.int .u32 0, .int .u32 0, .int .u16 0, .int .u16 0, .int .u32 0, .slice none 0 0] 43)) := (Below.refl _ _).alloc (Nat.le_refl _) _
      exact hK _ _ (GInR_mono hb3) (hJ.trans (hb3.mono hJ.size)) (fun _ => ⟨_, rfl, hJ.size, arr_new _ _ _⟩)
    | i + 22, ho, hd => omega
  case fin =>
    intro W fq hJ hG
    have q0 : fq 23 = .pointer (some ⟨w.heap.size, 2, none⟩) := hG 0 23 rfl
    have q1 : fq 24 = .slice p n c := hG 1 24 rfl
    have q2 : fq 25 = .int .u64 x0 := hG 2 25 rfl
    have q3 : fq 26 = .int .u32 x0 := hG 3 26 rfl
    have q4 : fq 27 = .pointer (some ⟨w.heap.size, 2, none⟩) := hG 4 27 rfl
    have q5 : fq 28 = .slice p n c := hG 5 28 rfl
    have q6 : fq 29 = .int .u64 x1 := hG 6 29 rfl
    have q7 : fq 30 = .int .u32 x1 := hG 7 30 rfl
    have q8 : fq 31 = .pointer (some ⟨w.heap.size, 2, none⟩) := hG 8 31 rfl
    have q9 : fq 32 = .slice p n c := hG 9 32 rfl
    have q10 : fq 33 = .int .u64 x2 := hG 10 33 rfl
    have q11 : fq 34 = .int .u16 x2 := hG 11 34 rfl
    have q12 : fq 35 = .pointer (some ⟨w.heap.size, 2, none⟩) := hG 12 35 rfl
    have q13 : fq 36 = .slice p n c := hG 13 36 rfl
    have q14 : fq 37 = .int .u64 x3 := hG 14 37 rfl
    have q15 : fq 38 = .int .u16 x3 := hG 15 38 rfl
    have q16 : fq 39 = .pointer (some ⟨w.heap.size, 2, none⟩) := hG 16 39 rfl
    have q17 : fq 40 = .slice p n c := hG 17 40 rfl
    have q18 : fq 41 = .int .u64 x4 := hG 18 41 rfl
    have q19 : fq 42 = .int .u32 x4 := hG 19 42 rfl
    have q20 : fq 43 = .agg #[.int .u32 x0, .int .u32 x1, .int .u16 x2, .int .u16 x3, .int .u32 x4, .slice none 0 0] := hG 20 43 rfl
    obtain ⟨gn_4, q21, hq4_0, hq4_1⟩ : ∃ gn_4, fq 4 = .pointer (some ⟨gn_4, 0, none⟩) ∧ wE.heap.size ≤ gn_4 ∧ Arr W gn_4 43 [.int .u32 0, .int .u32 0, .int .u16 0, .int .u16 0, .int .u32 0, .slice none 0 0] := hG 21 4 rfl
    clear hG
    refine Vals.wpOp_run rfl rfl ?_
    simp only [Vals.puts, Vals.pairs, List.filterMap_cons, List.filterMap_nil, id, List.map_cons, List.map_nil, List.foldl_cons, List.foldl_nil, q0, q1, q2, q3, q4, q5, q6, q7, q8, q9, q10, q11, q12, q13, q14, q15, q16, q17, q18, q19, q20, q21]
    clear q0 q1 q2 q3 q4 q5 q6 q7 q8 q9 q10 q11 q12 q13 q14 q15 q16 q17 q18 q19 q20 q21
    go_frame
    obtain ⟨W4, hW4⟩ : ∃ x, ((((((W.setCell ⟨gn_4, 0, none⟩ (.int .u32 x0)).setCell ⟨gn_4, 1, none⟩ (.int .u32 x1)).setCell ⟨gn_4, 2, none⟩ (.int .u16 x2)).setCell ⟨gn_4, 3, none⟩ (.int .u16 x3)).setCell ⟨gn_4, 4, none⟩ (.int .u32 x4)).setCell ⟨gn_4, 5, none⟩ (.slice none 0 0)) = x := ⟨_, rfl⟩
    have hA4 : Arr _ gn_4 43 [.int .u32 x0, .int .u32 x1, .int .u16 x2, .int .u16 x3, .int .u32 x4, .slice none 0 0] := ((((((hq4_1.set 0 (.int .u32 x0)).set 1 (.int .u32 x1)).set 2 (.int .u16 x2)).set 3 (.int .u16 x3)).set 4 (.int .u32 x4)).set 5 (.slice none 0 0))
    have hB4 := (((((((hJ : Below wE.heap.size wE W).setCell (p := ⟨gn_4, 0, none⟩) hq4_0 (.int .u32 x0)).setCell (p := ⟨gn_4, 1, none⟩) hq4_0 (.int .u32 x1)).setCell (p := ⟨gn_4, 2, none⟩) hq4_0 (.int .u16 x2)).setCell (p := ⟨gn_4, 3, none⟩) hq4_0 (.int .u16 x3)).setCell (p := ⟨gn_4, 4, none⟩) hq4_0 (.int .u32 x4)).setCell (p := ⟨gn_4, 5, none⟩) hq4_0 (.slice none 0 0))
    rw [hW4] at hA4 hB4
    have fr0 := hq4_1.free 0
    have fr1 := hq4_1.free 1
    have fr2 := hq4_1.free 2
    have fr3 := hq4_1.free 3
    have fr4 := hq4_1.free 4
    have fr5 := hq4_1.free 5
    have y0 := hq4_1.cell (i := 0) rfl
    have y1 := hq4_1.cell (i := 1) rfl
    have y2 := hq4_1.cell (i := 2) rfl
    have y3 := hq4_1.cell (i := 3) rfl
    have y4 := hq4_1.cell (i := 4) rfl
    have y5 := hq4_1.cell (i := 5) rfl
    have HA4 := Lib.hid hA4
    have HB4 := Lib.hid hB4
    have HGN := Lib.hid hq4_0
    clear hJ hq4_1 hq4_0 hA4 hB4
    go_simp
    have cc0 := (HC.out.keep HB4.out).cell (i := 0) rfl
    have cc1 := (HC.out.keep HB4.out).cell (i := 1) rfl
    have cc2 := (HC.out.keep HB4.out).cell (i := 2) rfl
    clear fr0 fr1 fr2 fr3 fr4 fr5 y0 y1 y2 y3 y4 y5
    have hl5 : x5 ≤ 65535 := by omega
    go_wp2_with fail
    refine (HNx5.out _ (HRW.out W4 HB4.out)).mono ?_
    rintro e w1 ⟨rfl, hb1⟩
    have hB1 := HB4.out.trans (hb1.mono HB4.out.size)
    have HRW1 := Lib.hid (HRW.out w1 hB1)
    have HA1 := Lib.hid (HA4.out.keep hb1)
    have HB1 := Lib.hid hB1
    clear cc0 cc1 cc2
    have ce0 := (HC.out.keep hB1).cell (i := 0) rfl
    have ce1 := (HC.out.keep hB1).cell (i := 1) rfl
    have ce2 := (HC.out.keep hB1).cell (i := 2) rfl
    clear hb1 hB1 HB4 HA4 hW4
    by_cases hyes : 4 ≤ x5 ∧ 20 + (x5 - 4).toNat ≤ zs.length
    case neg =>
      have HCUT := Lib.hid (cutR_no p n c 20 (x5 - 4) w1 (by omega) (by omega) (by omega) (by
        cases hh : hasB n 20 (x5 - 4) with
        | false => rfl
        | true => have := (hasB_iff n 20 (x5 - 4)).1 hh; have := HRW1.out.1; omega))
      have HNO := Lib.hid hyes
      clear hyes
      go_wp2_with fail
      refine HCUT.out.mono ?_
      rintro e w' ⟨rfl, rfl⟩
      have hz5 := HZ.out.keep HB1.out
      have hB5 := HBE.out.1.trans (HB1.out.mono HBE.out.1.size)
      clear HCUT ce0 ce1 ce2
      have hrw := (Row8.nil w.heap.size w1)
      obtain ⟨w8, hw8⟩ : ∃ x, ((((((w1.setCell ⟨(w.heap.size + 1), 0, none⟩ (.int .u32 0)).setCell ⟨(w.heap.size + 1), 1, none⟩ (.int .u32 0)).setCell ⟨(w.heap.size + 1), 2, none⟩ (.int .u16 0)).setCell ⟨(w.heap.size + 1), 3, none⟩ (.int .u16 0)).setCell ⟨(w.heap.size + 1), 4, none⟩ (.int .u32 0)).setCell ⟨(w.heap.size + 1), 5, none⟩ (.slice none 0 0)) = x := ⟨_, rfl⟩
      have hA4 : Arr _ (w.heap.size + 1) 43 [.int .u32 0, .int .u32 0, .int .u16 0, .int .u16 0, .int .u32 0, .slice none 0 0] := ((((((hz5.set 0 (.int .u32 0)).set 1 (.int .u32 0)).set 2 (.int .u16 0)).set 3 (.int .u16 0)).set 4 (.int .u32 0)).set 5 (.slice none 0 0))
      have hB4 := ((((((hB5.setCell (p := ⟨(w.heap.size + 1), 0, none⟩) (by simp) (.int .u32 0)).setCell (p := ⟨(w.heap.size + 1), 1, none⟩) (by simp) (.int .u32 0)).setCell (p := ⟨(w.heap.size + 1), 2, none⟩) (by simp) (.int .u16 0)).setCell (p := ⟨(w.heap.size + 1), 3, none⟩) (by simp) (.int .u16 0)).setCell (p := ⟨(w.heap.size + 1), 4, none⟩) (by simp) (.int .u32 0)).setCell (p := ⟨(w.heap.size + 1), 5, none⟩) (by simp) (.slice none 0 0))
      have hrw4 := ((((((hrw.setAt hz5 (by decide) 0 (.int .u32 0)).setAt (hz5.set 0 (.int .u32 0)) (by decide) 1 (.int .u32 0)).setAt ((hz5.set 0 (.int .u32 0)).set 1 (.int .u32 0)) (by decide) 2 (.int .u16 0)).setAt (((hz5.set 0 (.int .u32 0)).set 1 (.int .u32 0)).set 2 (.int .u16 0)) (by decide) 3 (.int .u16 0)).setAt ((((hz5.set 0 (.int .u32 0)).set 1 (.int .u32 0)).set 2 (.int .u16 0)).set 3 (.int .u16 0)) (by decide) 4 (.int .u32 0)).setAt (((((hz5.set 0 (.int .u32 0)).set 1 (.int .u32 0)).set 2 (.int .u16 0)).set 3 (.int .u16 0)).set 4 (.int .u32 0)) (by decide) 5 (.slice none 0 0))
      rw [hw8] at hA4 hB4 hrw4
      have fs0 := hz5.free 0
      have fs1 := hz5.free 1
      have fs2 := hz5.free 2
      have fs3 := hz5.free 3
      have fs4 := hz5.free 4
      have fs5 := hz5.free 5
      have yy0 := hz5.cell (i := 0) rfl
      have yy1 := hz5.cell (i := 1) rfl
      have yy2 := hz5.cell (i := 2) rfl
      have yy3 := hz5.cell (i := 3) rfl
      have yy4 := hz5.cell (i := 4) rfl
      have yy5 := hz5.cell (i := 5) rfl
      have zz0 := hA4.cell (i := 0) rfl
      have zz1 := hA4.cell (i := 1) rfl
      have zz2 := hA4.cell (i := 2) rfl
      have zz3 := hA4.cell (i := 3) rfl
      have zz4 := hA4.cell (i := 4) rfl
      have zz5 := hA4.cell (i := 5) rfl
      have HE := Lib.hid (And.intro hB4 hrw4)
      clear hA4 hB4 hrw hrw4 hz5 hB5
      go_wp2
      refine bodyPost_ret (by simp [results, Try.results25, go_sem, zz0, zz1, zz2, zz3, zz4, zz5] <;> rfl) rfl ?_
      have hck : ckOf zs x5 = [] := by unfold ckOf; rw [if_neg HNO.out]
      rw [hck]
      exact ⟨none, 0, .inr ⟨by simp [initOk], rfl⟩, HE.out.1, HE.out.2⟩
    case pos =>
      obtain ⟨m, hm5⟩ : ∃ m : Nat, (m : Int) = x5 - 4 := ⟨(x5 - 4).toNat, by omega⟩
      have hmn : (x5 - 4).toNat = m := by omega
      have hcut := cutR_yes p n c 20 m zs w1 HRW1.out hc (by omega) (by have := HRW1.out.1; omega)
      rw [hm5] at hcut
      have HCUT := Lib.hid hcut
      have hcke : ckOf zs x5 = (zs.drop 20).take m := by unfold ckOf; rw [if_pos hyes, hmn]
      have hckl0 : ((zs.drop 20).take m).length = m := by have := hyes.2; simp; omega
      have HCE := Lib.hid (And.intro hcke hckl0)
      have HM5 := Lib.hid hm5
      have HYES := Lib.hid hyes
      clear hcut hcke hckl0 hmn hyes hm5
      go_wp2_with fail
      refine HCUT.out.mono ?_
      rintro e w5 ⟨a5, rfl, hb5, hr5⟩
      have hB5' := HB1.out.trans (hb5.mono HB1.out.size)
      have hr5' := hr5.lower (Nat.le_trans HBE.out.1.size HB1.out.size)
      clear ce0 ce1 ce2 HCUT
      by_cases hm1 : x5 - 4 < 1
      case pos =>
        have HM1 := Lib.hid hm1
        have hz5 := HZ.out.keep hB5'
        have hB5 := HBE.out.1.trans (hB5'.mono HBE.out.1.size)
        clear hb5 hr5 hB5'
        have hrw := hr5'
        obtain ⟨w8, hw8⟩ : ∃ x, ((((((w5.setCell ⟨(w.heap.size + 1), 0, none⟩ (.int .u32 0)).setCell ⟨(w.heap.size + 1), 1, none⟩ (.int .u32 0)).setCell ⟨(w.heap.size + 1), 2, none⟩ (.int .u16 0)).setCell ⟨(w.heap.size + 1), 3, none⟩ (.int .u16 0)).setCell ⟨(w.heap.size + 1), 4, none⟩ (.int .u32 0)).setCell ⟨(w.heap.size + 1), 5, none⟩ (.slice none 0 0)) = x := ⟨_, rfl⟩
        have hA4 : Arr _ (w.heap.size + 1) 43 [.int .u32 0, .int .u32 0, .int .u16 0, .int .u16 0, .int .u32 0, .slice none 0 0] := ((((((hz5.set 0 (.int .u32 0)).set 1 (.int .u32 0)).set 2 (.int .u16 0)).set 3 (.int .u16 0)).set 4 (.int .u32 0)).set 5 (.slice none 0 0))
        have hB4 := ((((((hB5.setCell (p := ⟨(w.heap.size + 1), 0, none⟩) (by simp) (.int .u32 0)).setCell (p := ⟨(w.heap.size + 1), 1, none⟩) (by simp) (.int .u32 0)).setCell (p := ⟨(w.heap.size + 1), 2, none⟩) (by simp) (.int .u16 0)).setCell (p := ⟨(w.heap.size + 1), 3, none⟩) (by simp) (.int .u16 0)).setCell (p := ⟨(w.heap.size + 1), 4, none⟩) (by simp) (.int .u32 0)).setCell (p := ⟨(w.heap.size + 1), 5, none⟩) (by simp) (.slice none 0 0))
        have hrw4 := ((((((hrw.setAt hz5 (by decide) 0 (.int .u32 0)).setAt (hz5.set 0 (.int .u32 0)) (by decide) 1 (.int .u32 0)).setAt ((hz5.set 0 (.int .u32 0)).set 1 (.int .u32 0)) (by decide) 2 (.int .u16 0)).setAt (((hz5.set 0 (.int .u32 0)).set 1 (.int .u32 0)).set 2 (.int .u16 0)) (by decide) 3 (.int .u16 0)).setAt ((((hz5.set 0 (.int .u32 0)).set 1 (.int .u32 0)).set 2 (.int .u16 0)).set 3 (.int .u16 0)) (by decide) 4 (.int .u32 0)).setAt (((((hz5.set 0 (.int .u32 0)).set 1 (.int .u32 0)).set 2 (.int .u16 0)).set 3 (.int .u16 0)).set 4 (.int .u32 0)) (by decide) 5 (.slice none 0 0))
        rw [hw8] at hA4 hB4 hrw4
        have fs0 := hz5.free 0
        have fs1 := hz5.free 1
        have fs2 := hz5.free 2
        have fs3 := hz5.free 3
        have fs4 := hz5.free 4
        have fs5 := hz5.free 5
        have yy0 := hz5.cell (i := 0) rfl
        have yy1 := hz5.cell (i := 1) rfl
        have yy2 := hz5.cell (i := 2) rfl
        have yy3 := hz5.cell (i := 3) rfl
        have yy4 := hz5.cell (i := 4) rfl
        have yy5 := hz5.cell (i := 5) rfl
        have zz0 := hA4.cell (i := 0) rfl
        have zz1 := hA4.cell (i := 1) rfl
        have zz2 := hA4.cell (i := 2) rfl
        have zz3 := hA4.cell (i := 3) rfl
        have zz4 := hA4.cell (i := 4) rfl
        have zz5 := hA4.cell (i := 5) rfl
        have HE := Lib.hid (And.intro hB4 hrw4)
        clear hA4 hB4 hrw hrw4 hz5 hB5 hr5'
        go_wp2
        refine bodyPost_ret (by simp [results, Try.results25, go_sem, zz0, zz1, zz2, zz3, zz4, zz5] <;> rfl) rfl ?_
        have hck : ckOf zs x5 = [] := by rw [HCE.out.1]; exact List.eq_nil_of_length_eq_zero (by rw [HCE.out.2]; have := HM5.out; have := HM1.out; omega)
        rw [hck]
        exact ⟨none, 0, .inr ⟨by simp [initOk], rfl⟩, HE.out.1, Row8.nil _ _⟩
      case neg =>
        have HM1 := Lib.hid hm1
        have hA5 := HA1.out.keep hb5
        obtain ⟨ck, hck⟩ : ∃ ck, (zs.drop 20).take m = ck := ⟨_, rfl⟩
        have hcke := HCE.out.1
        have hckl := HCE.out.2
        rw [hck] at hr5' hcke hckl
        have hckb : Byt ck := by rw [← hck]; exact (hz.drop 20).take _
        obtain ⟨v6, hv6⟩ : ∃ x, w5.setCell ⟨gn_4, 5, none⟩ (.slice a5 m m) = x := ⟨_, rfl⟩
        have hA6 : Arr _ gn_4 43 [.int .u32 x0, .int .u32 x1, .int .u16 x2, .int .u16 x3, .int .u32 x4, .slice a5 m m] := hA5.set 5 (.slice a5 m m)
        have hB6 := hB5'.setCell (p := ⟨gn_4, 5, none⟩) HGN.out (.slice a5 m m)
        have hr6 := hr5'.setAt hA5 (by decide) 5 (.slice a5 m m)
        rw [hv6] at hA6 hB6 hr6
        have fr5 := hA5.free 5
        have y5 := hA5.cell (i := 5) rfl
        have hzs : zs.length = n := HRW1.out.1
        have hmle : m ≤ n := by have := HYES.out.2; have := HM5.out; omega
        have HC6 := Lib.hid (HC.out.keep hB6)
        have HZ6 := Lib.hid (HZ.out.keep hB6)
        have HA6 := Lib.hid hA6
        have HR6 := Lib.hid hr6
        have HRW6 := Lib.hid (HRW.out v6 hB6)
        have HBV := Lib.hid (HBE.out.1.trans (hB6.mono HBE.out.1.size))
        have HCB := Lib.hid hckb
        obtain ⟨bb, hbb⟩ : ∃ bb, bb = eqC 2 0 (initB 2 x0 x1 x2 x3 x4 ck) 2 f zs := ⟨_, rfl⟩
        have HBB := Lib.hid hbb
        have cf0 := HC6.out.cell (i := 0) rfl
        have cf1 := HC6.out.cell (i := 1) rfl
        have cf2 := HC6.out.cell (i := 2) rfl
        have d0 := hA6.cell (i := 0) rfl
        have d1 := hA6.cell (i := 1) rfl
        have d2 := hA6.cell (i := 2) rfl
        have d3 := hA6.cell (i := 3) rfl
        have d4 := hA6.cell (i := 4) rfl
        have d5 := hA6.cell (i := 5) rfl
        have HCK := Lib.hid (And.intro hcke hckl)
        clear hb5 hr5 hr5' hB5' hA5 hcke hckl hck hckb hbb hA6 hB6 hr6 hzs HA1 HRW1
        by_cases hzz : x0 = 0
        case pos =>
          have H0Z := Lib.hid hzz
          go_wp2
          go_quiet (fail)
          have hz7 : Arr (v6.drewN nq) _ _ _ := HZ6.out
          have hB7 : Below w.heap.size w (v6.drewN nq) := below_drewN HBV.out nq
          have hr7 : Row8 w.heap.size (v6.drewN nq) a5 m m ck := HR6.out.keep (Below.of_drewN v6 nq)
          clear hzz
          generalize v6.drewN nq = w7 at hz7 hB7 hr7 ⊢
          have hrw := hr7
          obtain ⟨w8, hw8⟩ : ∃ x, ((((((w7.setCell ⟨(w.heap.size + 1), 0, none⟩ (.int .u32 0)).setCell ⟨(w.heap.size + 1), 1, none⟩ (.int .u32 0)).setCell ⟨(w.heap.size + 1), 2, none⟩ (.int .u16 0)).setCell ⟨(w.heap.size + 1), 3, none⟩ (.int .u16 0)).setCell ⟨(w.heap.size + 1), 4, none⟩ (.int .u32 0)).setCell ⟨(w.heap.size + 1), 5, none⟩ (.slice none 0 0)) = x := ⟨_, rfl⟩
          have hA4 : Arr _ (w.heap.size + 1) 43 [.int .u32 0, .int .u32 0, .int .u16 0, .int .u16 0, .int .u32 0, .slice none 0 0] := ((((((hz7.set 0 (.int .u32 0)).set 1 (.int .u32 0)).set 2 (.int .u16 0)).set 3 (.int .u16 0)).set 4 (.int .u32 0)).set 5 (.slice none 0 0))
          have hB4 := ((((((hB7.setCell (p := ⟨(w.heap.size + 1), 0, none⟩) (by simp) (.int .u32 0)).setCell (p := ⟨(w.heap.size + 1), 1, none⟩) (by simp) (.int .u32 0)).setCell (p := ⟨(w.heap.size + 1), 2, none⟩) (by simp) (.int .u16 0)).setCell (p := ⟨(w.heap.size + 1), 3, none⟩) (by simp) (.int .u16 0)).setCell (p := ⟨(w.heap.size + 1), 4, none⟩) (by simp) (.int .u32 0)).setCell (p := ⟨(w.heap.size + 1), 5, none⟩) (by simp) (.slice none 0 0))
          have hrw4 := ((((((hrw.setAt hz7 (by decide) 0 (.int .u32 0)).setAt (hz7.set 0 (.int .u32 0)) (by decide) 1 (.int .u32 0)).setAt ((hz7.set 0 (.int .u32 0)).set 1 (.int .u32 0)) (by decide) 2 (.int .u16 0)).setAt (((hz7.set 0 (.int .u32 0)).set 1 (.int .u32 0)).set 2 (.int .u16 0)) (by decide) 3 (.int .u16 0)).setAt ((((hz7.set 0 (.int .u32 0)).set 1 (.int .u32 0)).set 2 (.int .u16 0)).set 3 (.int .u16 0)) (by decide) 4 (.int .u32 0)).setAt (((((hz7.set 0 (.int .u32 0)).set 1 (.int .u32 0)).set 2 (.int .u16 0)).set 3 (.int .u16 0)).set 4 (.int .u32 0)) (by decide) 5 (.slice none 0 0))
          rw [hw8] at hA4 hB4 hrw4
          have fs0 := hz7.free 0
          have fs1 := hz7.free 1
          have fs2 := hz7.free 2
          have fs3 := hz7.free 3
          have fs4 := hz7.free 4
          have fs5 := hz7.free 5
          have yy0 := hz7.cell (i := 0) rfl
          have yy1 := hz7.cell (i := 1) rfl
          have yy2 := hz7.cell (i := 2) rfl
          have yy3 := hz7.cell (i := 3) rfl
          have yy4 := hz7.cell (i := 4) rfl
          have yy5 := hz7.cell (i := 5) rfl
          have zz0 := hA4.cell (i := 0) rfl
          have zz1 := hA4.cell (i := 1) rfl
          have zz2 := hA4.cell (i := 2) rfl
          have zz3 := hA4.cell (i := 3) rfl
          have zz4 := hA4.cell (i := 4) rfl
          have zz5 := hA4.cell (i := 5) rfl
          have HE := Lib.hid (And.intro hB4 hrw4)
          clear hA4 hB4 hrw hrw4 hz7 hB7 hr7 HZ6 HC6 HA6 HR6 HRW6 HBV
          go_wp2
          refine bodyPost_ret (by simp [results, Try.results25, go_sem, zz0, zz1, zz2, zz3, zz4, zz5] <;> rfl) rfl ?_
          obtain ⟨hcke, hckl⟩ := HCK.out
          rw [hcke, hckl]
          exact ⟨a5, m, .inr ⟨by simp [initOk, H0Z.out], rfl⟩, HE.out.1, HE.out.2⟩
        case neg =>
          have hbx0 : (x0 == 0) = false := by simpa using hzz
          have NH0Z := Lib.hid hzz
          clear hzz
          by_cases hzz : x2 = 0
          case pos =>
            have H2Z := Lib.hid hzz
            go_wp2
            go_quiet (fail)
            have hz7 : Arr (v6.drewN nq) _ _ _ := HZ6.out
            have hB7 : Below w.heap.size w (v6.drewN nq) := below_drewN HBV.out nq
            have hr7 : Row8 w.heap.size (v6.drewN nq) a5 m m ck := HR6.out.keep (Below.of_drewN v6 nq)
            clear hzz
            generalize v6.drewN nq = w7 at hz7 hB7 hr7 ⊢
            have hrw := hr7
            obtain ⟨w8, hw8⟩ : ∃ x, ((((((w7.setCell ⟨(w.heap.size + 1), 0, none⟩ (.int .u32 0)).setCell ⟨(w.heap.size + 1), 1, none⟩ (.int .u32 0)).setCell ⟨(w.heap.size + 1), 2, none⟩ (.int .u16 0)).setCell ⟨(w.heap.size + 1), 3, none⟩ (.int .u16 0)).setCell ⟨(w.heap.size + 1), 4, none⟩ (.int .u32 0)).setCell ⟨(w.heap.size + 1), 5, none⟩ (.slice none 0 0)) = x := ⟨_, rfl⟩
            have hA4 : Arr _ (w.heap.size + 1) 43 [.int .u32 0, .int .u32 0, .int .u16 0, .int .u16 0, .int .u32 0, .slice none 0 0] := ((((((hz7.set 0 (.int .u32 0)).set 1 (.int .u32 0)).set 2 (.int .u16 0)).set 3 (.int .u16 0)).set 4 (.int .u32 0)).set 5 (.slice none 0 0))
            have hB4 := ((((((hB7.setCell (p := ⟨(w.heap.size + 1), 0, none⟩) (by simp) (.int .u32 0)).setCell (p := ⟨(w.heap.size + 1), 1, none⟩) (by simp) (.int .u32 0)).setCell (p := ⟨(w.heap.size + 1), 2, none⟩) (by simp) (.int .u16 0)).setCell (p := ⟨(w.heap.size + 1), 3, none⟩) (by simp) (.int .u16 0)).setCell (p := ⟨(w.heap.size + 1), 4, none⟩) (by simp) (.int .u32 0)).setCell (p := ⟨(w.heap.size + 1), 5, none⟩) (by simp) (.slice none 0 0))
            have hrw4 := ((((((hrw.setAt hz7 (by decide) 0 (.int .u32 0)).setAt (hz7.set 0 (.int .u32 0)) (by decide) 1 (.int .u32 0)).setAt ((hz7.set 0 (.int .u32 0)).set 1 (.int .u32 0)) (by decide) 2 (.int .u16 0)).setAt (((hz7.set 0 (.int .u32 0)).set 1 (.int .u32 0)).set 2 (.int .u16 0)) (by decide) 3 (.int .u16 0)).setAt ((((hz7.set 0 (.int .u32 0)).set 1 (.int .u32 0)).set 2 (.int .u16 0)).set 3 (.int .u16 0)) (by decide) 4 (.int .u32 0)).setAt (((((hz7.set 0 (.int .u32 0)).set 1 (.int .u32 0)).set 2 (.int .u16 0)).set 3 (.int .u16 0)).set 4 (.int .u32 0)) (by decide) 5 (.slice none 0 0))
            rw [hw8] at hA4 hB4 hrw4
            have fs0 := hz7.free 0
            have fs1 := hz7.free 1
            have fs2 := hz7.free 2
            have fs3 := hz7.free 3
            have fs4 := hz7.free 4
            have fs5 := hz7.free 5
            have yy0 := hz7.cell (i := 0) rfl
            have yy1 := hz7.cell (i := 1) rfl
            have yy2 := hz7.cell (i := 2) rfl
            have yy3 := hz7.cell (i := 3) rfl
            have yy4 := hz7.cell (i := 4) rfl
            have yy5 := hz7.cell (i := 5) rfl
            have zz0 := hA4.cell (i := 0) rfl
            have zz1 := hA4.cell (i := 1) rfl
            have zz2 := hA4.cell (i := 2) rfl
            have zz3 := hA4.cell (i := 3) rfl
            have zz4 := hA4.cell (i := 4) rfl
            have zz5 := hA4.cell (i := 5) rfl
            have HE := Lib.hid (And.intro hB4 hrw4)
            clear hA4 hB4 hrw hrw4 hz7 hB7 hr7 HZ6 HC6 HA6 HR6 HRW6 HBV
            go_wp2
            refine bodyPost_ret (by simp [results, Try.results25, go_sem, zz0, zz1, zz2, zz3, zz4, zz5] <;> rfl) rfl ?_
            obtain ⟨hcke, hckl⟩ := HCK.out
            rw [hcke, hckl]
            exact ⟨a5, m, .inr ⟨by simp [initOk, H2Z.out], rfl⟩, HE.out.1, HE.out.2⟩
          case neg =>
            have hbx2 : (x2 == 0) = false := by simpa using hzz
            have NH2Z := Lib.hid hzz
            clear hzz
            by_cases hzz : x3 = 0
            case pos =>
              have H3Z := Lib.hid hzz
              go_wp2
              go_quiet (fail)
              have hz7 : Arr (v6.drewN nq) _ _ _ := HZ6.out
              have hB7 : Below w.heap.size w (v6.drewN nq) := below_drewN HBV.out nq
              have hr7 : Row8 w.heap.size (v6.drewN nq) a5 m m ck := HR6.out.keep (Below.of_drewN v6 nq)
              clear hzz
              generalize v6.drewN nq = w7 at hz7 hB7 hr7 ⊢
              have hrw := hr7
              obtain ⟨w8, hw8⟩ : ∃ x, ((((((w7.setCell ⟨(w.heap.size + 1), 0, none⟩ (.int .u32 0)).setCell ⟨(w.heap.size + 1), 1, none⟩ (.int .u32 0)).setCell ⟨(w.heap.size + 1), 2, none⟩ (.int .u16 0)).setCell ⟨(w.heap.size + 1), 3, none⟩ (.int .u16 0)).setCell ⟨(w.heap.size + 1), 4, none⟩ (.int .u32 0)).setCell ⟨(w.heap.size + 1), 5, none⟩ (.slice none 0 0)) = x := ⟨_, rfl⟩
              have hA4 : Arr _ (w.heap.size + 1) 43 [.int .u32 0, .int .u32 0, .int .u16 0, .int .u16 0, .int .u32 0, .slice none 0 0] := ((((((hz7.set 0 (.int .u32 0)).set 1 (.int .u32 0)).set 2 (.int .u16 0)).set 3 (.int .u16 0)).set 4 (.int .u32 0)).set 5 (.slice none 0 0))
              have hB4 := ((((((hB7.setCell (p := ⟨(w.heap.size + 1), 0, none⟩) (by simp) (.int .u32 0)).setCell (p := ⟨(w.heap.size + 1), 1, none⟩) (by simp) (.int .u32 0)).setCell (p := ⟨(w.heap.size + 1), 2, none⟩) (by simp) (.int .u16 0)).setCell (p := ⟨(w.heap.size + 1), 3, none⟩) (by simp) (.int .u16 0)).setCell (p := ⟨(w.heap.size + 1), 4, none⟩) (by simp) (.int .u32 0)).setCell (p := ⟨(w.heap.size + 1), 5, none⟩) (by simp) (.slice none 0 0))
              have hrw4 := ((((((hrw.setAt hz7 (by decide) 0 (.int .u32 0)).setAt (hz7.set 0 (.int .u32 0)) (by decide) 1 (.int .u32 0)).setAt ((hz7.set 0 (.int .u32 0)).set 1 (.int .u32 0)) (by decide) 2 (.int .u16 0)).setAt (((hz7.set 0 (.int .u32 0)).set 1 (.int .u32 0)).set 2 (.int .u16 0)) (by decide) 3 (.int .u16 0)).setAt ((((hz7.set 0 (.int .u32 0)).set 1 (.int .u32 0)).set 2 (.int .u16 0)).set 3 (.int .u16 0)) (by decide) 4 (.int .u32 0)).setAt (((((hz7.set 0 (.int .u32 0)).set 1 (.int .u32 0)).set 2 (.int .u16 0)).set 3 (.int .u16 0)).set 4 (.int .u32 0)) (by decide) 5 (.slice none 0 0))
              rw [hw8] at hA4 hB4 hrw4
              have fs0 := hz7.free 0
              have fs1 := hz7.free 1
              have fs2 := hz7.free 2
              have fs3 := hz7.free 3
              have fs4 := hz7.free 4
              have fs5 := hz7.free 5
              have yy0 := hz7.cell (i := 0) rfl
              have yy1 := hz7.cell (i := 1) rfl
              have yy2 := hz7.cell (i := 2) rfl
              have yy3 := hz7.cell (i := 3) rfl
              have yy4 := hz7.cell (i := 4) rfl
              have yy5 := hz7.cell (i := 5) rfl
              have zz0 := hA4.cell (i := 0) rfl
              have zz1 := hA4.cell (i := 1) rfl
              have zz2 := hA4.cell (i := 2) rfl
              have zz3 := hA4.cell (i := 3) rfl
              have zz4 := hA4.cell (i := 4) rfl
              have zz5 := hA4.cell (i := 5) rfl
              have HE := Lib.hid (And.intro hB4 hrw4)
              clear hA4 hB4 hrw hrw4 hz7 hB7 hr7 HZ6 HC6 HA6 HR6 HRW6 HBV
              go_wp2
              refine bodyPost_ret (by simp [results, Try.results25, go_sem, zz0, zz1, zz2, zz3, zz4, zz5] <;> rfl) rfl ?_
              obtain ⟨hcke, hckl⟩ := HCK.out
              rw [hcke, hckl]
              exact ⟨a5, m, .inr ⟨by simp [initOk, H3Z.out], rfl⟩, HE.out.1, HE.out.2⟩
            case neg =>
              have hbx3 : (x3 == 0) = false := by simpa using hzz
              have NH3Z := Lib.hid hzz
              clear hzz
              go_wp2_with fail
              refine wp_region_any (by kernel_rfl) ?_
              refine Vals.wpAny_goodW (GInS w gn_4 2 f x0 x1 x2 x3 x4 p n c a5 m m ck bb) (fun _ => (fun W => Below v6.heap.size v6 W)) [some 68, some 69, some 70, some 71, some 72, some 73, some 74, some 75, some 76, some 77, some 78, some 79, some 80, some 81, some 82, some 83, some 84, some 85, some 86, some 87, some 88, some 89] 92 _ _ rfl (by kernel_rfl) (by kernel_rfl) (by decide) ?step9 ?fin9 (Below.refl _ _).drew
              case step9 =>
                intro i o d ho hd listed a W hls hun hcl hJ hdf hdep hfr K hK
                match i, ho, hd with
                | 0, ho, hd =>
                  have ho' := ho
                  simp only [List.getElem?_toArray, List.getElem?_cons_zero, Option.some.injEq] at ho hd
                  subst ho hd
                  have r4 : a.eval (.tmp 4) = .pointer (some ⟨gn_4, 0, none⟩) := hfr 4 (by decide)
                  rw [Vals.eval_tmp] at r4
                  refine Vals.wpOp_run ho' rfl ?_
                  clear hdep hfr ho' hdf hcl
                  go_simp
                  exact hK _ _ (fun _ _ h => h) hJ (fun _ => rfl)
                | 1, ho, hd =>
                  have ho' := ho
                  simp only [List.getElem?_toArray, List.getElem?_cons_zero, List.getElem?_cons_succ, Option.some.injEq] at ho hd
                  subst ho hd
                  have r68 : a.eval (.tmp 68) = .pointer (some ⟨gn_4, 0, none⟩) := (hdep ⟨0, .data⟩ (by simp) rfl).2 68 rfl
                  rw [Vals.eval_tmp] at r68
                  have c0 := (HA6.out.keep hJ).cell (i := 0) rfl
                  refine Vals.wpOp_run ho' rfl ?_
                  clear hdep hfr ho' hdf hcl
                  go_simp
                  exact hK _ _ (fun _ _ h => h) hJ (fun _ => rfl)
                | 2, ho, hd =>
                  have ho' := ho
                  simp only [List.getElem?_toArray, List.getElem?_cons_zero, List.getElem?_cons_succ, Option.some.injEq] at ho hd
                  subst ho hd
                  have r69 : a.eval (.tmp 69) = .int .u32 x0 := (hdep ⟨1, .data⟩ (by simp) rfl).2 69 rfl
                  rw [Vals.eval_tmp] at r69
                  refine Vals.wpOp_run ho' rfl ?_
                  clear hdep hfr ho' hdf hcl
                  go_simp
                  exact hK _ _ (fun _ _ h => h) hJ (fun _ => rfl)
                | 3, ho, hd =>
                  have ho' := ho
                  simp only [List.getElem?_toArray, List.getElem?_cons_zero, List.getElem?_cons_succ, Option.some.injEq] at ho hd
                  subst ho hd
                  have r70 : a.eval (.tmp 70) = .bool false := (hdep ⟨2, .data⟩ (by simp) rfl).2 70 rfl
                  rw [Vals.eval_tmp] at r70
                  refine Vals.wpOp_run ho' rfl ?_
                  clear hdep hfr ho' hdf hcl
                  go_simp
                  exact hK _ _ (fun _ _ h => h) hJ (fun _ => rfl)
                | 4, ho, hd =>
                  have ho' := ho
                  simp only [List.getElem?_toArray, List.getElem?_cons_zero, List.getElem?_cons_succ, Option.some.injEq] at ho hd
                  subst ho hd
                  have hgd : a.eval (.tmp 71) = .bool false := (hdep ⟨3, .guard⟩ (by simp) rfl).2 71 rfl
                  have r4 : a.eval (.tmp 4) = .pointer (some ⟨gn_4, 0, none⟩) := hfr 4 (by decide)
                  rw [Vals.eval_tmp] at r4
                  refine Vals.wpOp_run ho' (by unfold Region.wanted; simp only []; rw [Vals.yielded_of (d := 71) rfl hgd]; rfl) ?_
                  clear hdep hfr ho' hdf hgd hcl
                  go_simp
                  exact hK _ _ (fun _ _ h => h) hJ (fun _ => rfl)
                | 5, ho, hd =>
                  have ho' := ho
                  simp only [List.getElem?_toArray, List.getElem?_cons_zero, List.getElem?_cons_succ, Option.some.injEq] at ho hd
                  subst ho hd
                  have hgd : a.eval (.tmp 71) = .bool false := (hdep ⟨3, .guard⟩ (by simp) rfl).2 71 rfl
                  have r72 : a.eval (.tmp 72) = .pointer (some ⟨gn_4, 2, none⟩) := (hdep ⟨4, .data⟩ (by simp) rfl).2 72 rfl
                  rw [Vals.eval_tmp] at r72
                  have c0 := (HA6.out.keep hJ).cell (i := 2) rfl
                  refine Vals.wpOp_run ho' (by unfold Region.wanted; simp only []; rw [Vals.yielded_of (d := 71) rfl hgd]; rfl) ?_
                  clear hdep hfr ho' hdf hgd hcl
                  go_simp
                  exact hK _ _ (fun _ _ h => h) hJ (fun _ => rfl)
                | 6, ho, hd =>
                  have ho' := ho
                  simp only [List.getElem?_toArray, List.getElem?_cons_zero, List.getElem?_cons_succ, Option.some.injEq] at ho hd
                  subst ho hd
                  have hgd : a.eval (.tmp 71) = .bool false := (hdep ⟨3, .guard⟩ (by simp) rfl).2 71 rfl
                  have r73 : a.eval (.tmp 73) = .int .u16 x2 := (hdep ⟨5, .data⟩ (by simp) rfl).2 73 rfl
                  rw [Vals.eval_tmp] at r73
                  refine Vals.wpOp_run ho' (by unfold Region.wanted; simp only []; rw [Vals.yielded_of (d := 71) rfl hgd]; rfl) ?_
                  clear hdep hfr ho' hdf hgd hcl
                  go_simp
                  exact hK _ _ (fun _ _ h => h) hJ (fun _ => rfl)
                | 7, ho, hd =>
                  have ho' := ho
                  simp only [List.getElem?_toArray, List.getElem?_cons_zero, List.getElem?_cons_succ, Option.some.injEq] at ho hd
                  subst ho hd
                  have r71 : a.eval (.tmp 71) = .bool false := (hdep ⟨3, .data⟩ (by simp) rfl).2 71 rfl
                  rw [Vals.eval_tmp] at r71
                  have r74 : a.eval (.tmp 74) = .bool false := (hdep ⟨6, .data⟩ (by simp) rfl).2 74 rfl
                  rw [Vals.eval_tmp] at r74
                  refine Vals.wpOp_run ho' rfl ?_
                  clear hdep hfr ho' hdf hcl
                  go_simp
                  exact hK _ _ (fun _ _ h => h) hJ (fun _ => rfl)
                | 8, ho, hd =>
                  have ho' := ho
                  simp only [List.getElem?_toArray, List.getElem?_cons_zero, List.getElem?_cons_succ, Option.some.injEq] at ho hd
                  subst ho hd
                  have r75 : a.eval (.tmp 75) = .bool false := (hdep ⟨7, .data⟩ (by simp) rfl).2 75 rfl
                  rw [Vals.eval_tmp] at r75
                  refine Vals.wpOp_run ho' rfl ?_
                  clear hdep hfr ho' hdf hcl
                  go_simp
                  exact hK _ _ (fun _ _ h => h) hJ (fun _ => rfl)
                | 9, ho, hd =>
                  have ho' := ho
                  simp only [List.getElem?_toArray, List.getElem?_cons_zero, List.getElem?_cons_succ, Option.some.injEq] at ho hd
                  subst ho hd
                  have hgd : a.eval (.tmp 76) = .bool false := (hdep ⟨8, .guard⟩ (by simp) rfl).2 76 rfl
                  have r4 : a.eval (.tmp 4) = .pointer (some ⟨gn_4, 0, none⟩) := hfr 4 (by decide)
                  rw [Vals.eval_tmp] at r4
                  refine Vals.wpOp_run ho' (by unfold Region.wanted; simp only []; rw [Vals.yielded_of (d := 76) rfl hgd]; rfl) ?_
                  clear hdep hfr ho' hdf hgd hcl
                  go_simp
                  exact hK _ _ (fun _ _ h => h) hJ (fun _ => rfl)
                | 10, ho, hd =>
                  have ho' := ho
                  simp only [List.getElem?_toArray, List.getElem?_cons_zero, List.getElem?_cons_succ, Option.some.injEq] at ho hd
                  subst ho hd
                  have hgd : a.eval (.tmp 76) = .bool false := (hdep ⟨8, .guard⟩ (by simp) rfl).2 76 rfl
                  have r77 : a.eval (.tmp 77) = .pointer (some ⟨gn_4, 3, none⟩) := (hdep ⟨9, .data⟩ (by simp) rfl).2 77 rfl
                  rw [Vals.eval_tmp] at r77
                  have c0 := (HA6.out.keep hJ).cell (i := 3) rfl
                  refine Vals.wpOp_run ho' (by unfold Region.wanted; simp only []; rw [Vals.yielded_of (d := 76) rfl hgd]; rfl) ?_
                  clear hdep hfr ho' hdf hgd hcl
                  go_simp
                  exact hK _ _ (fun _ _ h => h) hJ (fun _ => rfl)
                | 11, ho, hd =>
                  have ho' := ho
                  simp only [List.getElem?_toArray, List.getElem?_cons_zero, List.getElem?_cons_succ, Option.some.injEq] at ho hd
                  subst ho hd
                  have hgd : a.eval (.tmp 76) = .bool false := (hdep ⟨8, .guard⟩ (by simp) rfl).2 76 rfl
                  have r78 : a.eval (.tmp 78) = .int .u16 x3 := (hdep ⟨10, .data⟩ (by simp) rfl).2 78 rfl
                  rw [Vals.eval_tmp] at r78
                  refine Vals.wpOp_run ho' (by unfold Region.wanted; simp only []; rw [Vals.yielded_of (d := 76) rfl hgd]; rfl) ?_
                  clear hdep hfr ho' hdf hgd hcl
                  go_simp
                  exact hK _ _ (fun _ _ h => h) hJ (fun _ => rfl)
                | 12, ho, hd =>
                  have ho' := ho
                  simp only [List.getElem?_toArray, List.getElem?_cons_zero, List.getElem?_cons_succ, Option.some.injEq] at ho hd
                  subst ho hd
                  have r76 : a.eval (.tmp 76) = .bool false := (hdep ⟨8, .data⟩ (by simp) rfl).2 76 rfl
                  rw [Vals.eval_tmp] at r76
                  have r79 : a.eval (.tmp 79) = .bool false := (hdep ⟨11, .data⟩ (by simp) rfl).2 79 rfl
                  rw [Vals.eval_tmp] at r79
                  refine Vals.wpOp_run ho' rfl ?_
                  clear hdep hfr ho' hdf hcl
                  go_simp
                  exact hK _ _ (fun _ _ h => h) hJ (fun _ => rfl)
                | 13, ho, hd =>
                  have ho' := ho
                  simp only [List.getElem?_toArray, List.getElem?_cons_zero, List.getElem?_cons_succ, Option.some.injEq] at ho hd
                  subst ho hd
                  have r80 : a.eval (.tmp 80) = .bool false := (hdep ⟨12, .data⟩ (by simp) rfl).2 80 rfl
                  rw [Vals.eval_tmp] at r80
                  refine Vals.wpOp_run ho' rfl ?_
                  clear hdep hfr ho' hdf hcl
                  go_simp
                  exact hK _ _ (fun _ _ h => h) hJ (fun _ => rfl)
                | 14, ho, hd =>
                  have ho' := ho
                  simp only [List.getElem?_toArray, List.getElem?_cons_zero, List.getElem?_cons_succ, Option.some.injEq] at ho hd
                  subst ho hd
                  have hgd : a.eval (.tmp 81) = .bool false := (hdep ⟨13, .guard⟩ (by simp) rfl).2 81 rfl
                  have r1 : a.eval (.tmp 1) = .pointer (some ⟨w.heap.size, 0, none⟩) := hfr 1 (by decide)
                  rw [Vals.eval_tmp] at r1
                  refine Vals.wpOp_run ho' (by unfold Region.wanted; simp only []; rw [Vals.yielded_of (d := 81) rfl hgd]; rfl) ?_
                  clear hdep hfr ho' hdf hgd hcl
                  go_simp
                  exact hK _ _ (fun _ _ h => h) hJ (fun _ => rfl)
                | 15, ho, hd =>
                  have ho' := ho
                  simp only [List.getElem?_toArray, List.getElem?_cons_zero, List.getElem?_cons_succ, Option.some.injEq] at ho hd
                  subst ho hd
                  have hgd : a.eval (.tmp 81) = .bool false := (hdep ⟨13, .guard⟩ (by simp) rfl).2 81 rfl
                  have r82 : a.eval (.tmp 82) = .pointer (some ⟨w.heap.size, 0, none⟩) := (hdep ⟨14, .data⟩ (by simp) rfl).2 82 rfl
                  rw [Vals.eval_tmp] at r82
                  have c0 := (HC6.out.keep hJ).cell (i := 0) rfl
                  refine Vals.wpOp_run ho' (by unfold Region.wanted; simp only []; rw [Vals.yielded_of (d := 81) rfl hgd]; rfl) ?_
                  clear hdep hfr ho' hdf hgd hcl
                  go_simp
                  exact hK _ _ (fun _ _ h => h) hJ (fun _ => rfl)
                | 16, ho, hd =>
                  have ho' := ho
                  simp only [List.getElem?_toArray, List.getElem?_cons_zero, List.getElem?_cons_succ, Option.some.injEq] at ho hd
                  subst ho hd
                  have hgd : a.eval (.tmp 81) = .bool false := (hdep ⟨13, .guard⟩ (by simp) rfl).2 81 rfl
                  have r4 : a.eval (.tmp 4) = .pointer (some ⟨gn_4, 0, none⟩) := hfr 4 (by decide)
                  rw [Vals.eval_tmp] at r4
                  have c0 := (HA6.out.keep hJ).cell (i := 0) rfl
                  have c1 := (HA6.out.keep hJ).cell (i := 1) rfl
                  have c2 := (HA6.out.keep hJ).cell (i := 2) rfl
                  have c3 := (HA6.out.keep hJ).cell (i := 3) rfl
                  have c4 := (HA6.out.keep hJ).cell (i := 4) rfl
                  have c5 := (HA6.out.keep hJ).cell (i := 5) rfl
                  refine Vals.wpOp_run ho' (by unfold Region.wanted; simp only []; rw [Vals.yielded_of (d := 81) rfl hgd]; rfl) ?_
                  clear hdep hfr ho' hdf hgd hcl
                  go_simp
                  exact hK _ _ (fun _ _ h => h) hJ (fun _ => rfl)
                | 17, ho, hd =>
                  have ho' := ho
                  simp only [List.getElem?_toArray, List.getElem?_cons_zero, List.getElem?_cons_succ, Option.some.injEq] at ho hd
                  subst ho hd
                  have hgd : a.eval (.tmp 81) = .bool false := (hdep ⟨13, .guard⟩ (by simp) rfl).2 81 rfl
                  have r83 : a.eval (.tmp 83) = .int .u8 2 := (hdep ⟨15, .data⟩ (by simp) rfl).2 83 rfl
                  rw [Vals.eval_tmp] at r83
                  have r84 : a.eval (.tmp 84) = .agg #[.int .u32 x0, .int .u32 x1, .int .u16 x2, .int .u16 x3, .int .u32 x4, .slice a5 m m] := (hdep ⟨16, .data⟩ (by simp) rfl).2 84 rfl
                  rw [Vals.eval_tmp] at r84
                  refine Vals.wpOp_run ho' (by unfold Region.wanted; simp only []; rw [Vals.yielded_of (d := 81) rfl hgd]; rfl) ?_
                  clear hdep hfr ho' hdf hgd hcl
                  go_simp
                  refine (rputInit 2 x0 x1 x2 x3 x4 a5 m m ck W (HR6.out.reads.below hJ) (by omega) lox0 hix0 lox1 hix1 lox2 hix2 lox3 hix3 lox4 hix4).mono ?_
                  rintro e w' ⟨a1, c1, rfl, hb3, hr3⟩
                  exact hK _ _ (GInS_mono hb3) (hJ.trans (hb3.mono hJ.size)) (fun _ => ⟨_, _, rfl, hr3.reads⟩)
                | 18, ho, hd =>
                  have ho' := ho
                  simp only [List.getElem?_toArray, List.getElem?_cons_zero, List.getElem?_cons_succ, Option.some.injEq] at ho hd
                  subst ho hd
                  have hgd : a.eval (.tmp 81) = .bool false := (hdep ⟨13, .guard⟩ (by simp) rfl).2 81 rfl
                  have r1 : a.eval (.tmp 1) = .pointer (some ⟨w.heap.size, 0, none⟩) := hfr 1 (by decide)
                  rw [Vals.eval_tmp] at r1
                  have c0 := (HC6.out.keep hJ).cell (i := 0) rfl
                  have c1 := (HC6.out.keep hJ).cell (i := 1) rfl
                  have c2 := (HC6.out.keep hJ).cell (i := 2) rfl
                  refine Vals.wpOp_run ho' (by unfold Region.wanted; simp only []; rw [Vals.yielded_of (d := 81) rfl hgd]; rfl) ?_
                  clear hdep hfr ho' hdf hgd hcl
                  go_simp
                  exact hK _ _ (fun _ _ h => h) hJ (fun _ => rfl)
                | 19, ho, hd =>
                  have ho' := ho
                  simp only [List.getElem?_toArray, List.getElem?_cons_zero, List.getElem?_cons_succ, Option.some.injEq] at ho hd
                  subst ho hd
                  have hgd : a.eval (.tmp 81) = .bool false := (hdep ⟨13, .guard⟩ (by simp) rfl).2 81 rfl
                  have g85 : ∃ a1_85 c1_85, a.eval (.tmp 85) = .agg #[.int .u8 2, .int .u8 0, .slice a1_85 (initB 2 x0 x1 x2 x3 x4 ck).length c1_85] ∧ Reads W a1_85 (initB 2 x0 x1 x2 x3 x4 ck).length (initB 2 x0 x1 x2 x3 x4 ck) := (hdep ⟨17, .data⟩ (by simp) rfl).2 85 rfl
                  rw [Vals.eval_tmp] at g85
                  obtain ⟨a1_85, c1_85, r85, h85_0⟩ := g85
                  have r86 : a.eval (.tmp 86) = .agg #[.int .u8 2, .int .u8 f, .slice p n c] := (hdep ⟨18, .data⟩ (by simp) rfl).2 86 rfl
                  rw [Vals.eval_tmp] at r86
                  refine Vals.wpOp_run ho' (by unfold Region.wanted; simp only []; rw [Vals.yielded_of (d := 81) rfl hgd]; rfl) ?_
                  clear hdep hfr ho' hdf hgd hcl
                  go_simp
                  refine (rsame_any 2 0 2 f a1_85 p _ n _ c (initB 2 x0 x1 x2 x3 x4 ck) zs W h85_0 (HRW6.out.below hJ) (initB_byt _ _ _ _ _ _ HCB.out) hz (by have := initB_len 2 x0 x1 x2 x3 x4 ck; have := HR6.out.len; omega) (by omega)).mono ?_
                  rintro e w' ⟨rfl, hb3⟩
                  exact hK _ _ (GInS_mono hb3) (hJ.trans (hb3.mono hJ.size)) (fun _ => by show Value.bool _ = Value.bool _; rw [HBB.out])
                | 20, ho, hd =>
                  have ho' := ho
                  simp only [List.getElem?_toArray, List.getElem?_cons_zero, List.getElem?_cons_succ, Option.some.injEq] at ho hd
                  subst ho hd
                  have hgd : a.eval (.tmp 81) = .bool false := (hdep ⟨13, .guard⟩ (by simp) rfl).2 81 rfl
                  have r87 : a.eval (.tmp 87) = .bool bb := (hdep ⟨19, .data⟩ (by simp) rfl).2 87 rfl
                  rw [Vals.eval_tmp] at r87
                  refine Vals.wpOp_run ho' (by unfold Region.wanted; simp only []; rw [Vals.yielded_of (d := 81) rfl hgd]; rfl) ?_
                  clear hdep hfr ho' hdf hgd hcl
                  go_simp
                  exact hK _ _ (fun _ _ h => h) hJ (fun _ => rfl)
                | 21, ho, hd =>
                  have ho' := ho
                  simp only [List.getElem?_toArray, List.getElem?_cons_zero, List.getElem?_cons_succ, Option.some.injEq] at ho hd
                  subst ho hd
                  have r81 : a.eval (.tmp 81) = .bool false := (hdep ⟨13, .data⟩ (by simp) rfl).2 81 rfl
                  rw [Vals.eval_tmp] at r81
                  have r88 : a.eval (.tmp 88) = .bool (!bb) := (hdep ⟨20, .data⟩ (by simp) rfl).2 88 rfl
                  rw [Vals.eval_tmp] at r88
                  refine Vals.wpOp_run ho' rfl ?_
                  clear hdep hfr ho' hdf hcl
                  go_simp
                  exact hK _ _ (fun _ _ h => h) hJ (fun _ => rfl)
                | i + 22, ho, hd => simp at ho
              case fin9 =>
                intro listed W fq2 hall hJ hG
                have q0 : fq2 68 = .pointer (some ⟨gn_4, 0, none⟩) := hG 0 68 rfl
                have q1 : fq2 69 = .int .u32 x0 := hG 1 69 rfl
                have q2 : fq2 70 = .bool false := hG 2 70 rfl
                have q3 : fq2 71 = .bool false := hG 3 71 rfl
                have q4 : fq2 72 = .pointer (some ⟨gn_4, 2, none⟩) := hG 4 72 rfl
                have q5 : fq2 73 = .int .u16 x2 := hG 5 73 rfl
                have q6 : fq2 74 = .bool false := hG 6 74 rfl
                have q7 : fq2 75 = .bool false := hG 7 75 rfl
                have q8 : fq2 76 = .bool false := hG 8 76 rfl
                have q9 : fq2 77 = .pointer (some ⟨gn_4, 3, none⟩) := hG 9 77 rfl
                have q10 : fq2 78 = .int .u16 x3 := hG 10 78 rfl
                have q11 : fq2 79 = .bool false := hG 11 79 rfl
                have q12 : fq2 80 = .bool false := hG 12 80 rfl
                have q13 : fq2 81 = .bool false := hG 13 81 rfl
                have q14 : fq2 82 = .pointer (some ⟨w.heap.size, 0, none⟩) := hG 14 82 rfl
                have q15 : fq2 83 = .int .u8 2 := hG 15 83 rfl
                have q16 : fq2 84 = .agg #[.int .u32 x0, .int .u32 x1, .int .u16 x2, .int .u16 x3, .int .u32 x4, .slice a5 m m] := hG 16 84 rfl
                obtain ⟨a1_85, c1_85, q17, hq85_0⟩ : ∃ a1_85 c1_85, fq2 85 = .agg #[.int .u8 2, .int .u8 0, .slice a1_85 (initB 2 x0 x1 x2 x3 x4 ck).length c1_85] ∧ Reads W a1_85 (initB 2 x0 x1 x2 x3 x4 ck).length (initB 2 x0 x1 x2 x3 x4 ck) := hG 17 85 rfl
                have q18 : fq2 86 = .agg #[.int .u8 2, .int .u8 f, .slice p n c] := hG 18 86 rfl
                have q19 : fq2 87 = .bool bb := hG 19 87 rfl
                have q20 : fq2 88 = .bool (!bb) := hG 20 88 rfl
                have q21 : fq2 89 = .bool (!bb) := hG 21 89 rfl
                clear hG hall
                simp only [Vals.puts, Vals.pairs, List.filterMap_cons, List.filterMap_nil, id, List.map_cons, List.map_nil, List.foldl_cons, List.foldl_nil, q0, q1, q2, q3, q4, q5, q6, q7, q8, q9, q10, q11, q12, q13, q14, q15, q16, q17, q18, q19, q20, q21]
                clear q0 q1 q2 q3 q4 q5 q6 q7 q8 q9 q10 q11 q12 q13 q14 q15 q16 q17 q18 q19 q20 q21
                go_frame
                have hz7 := HZ6.out.keep hJ
                have hB7 := HBV.out.trans (hJ.mono HBV.out.size)
                have hr7 := HR6.out.keep hJ
                have hd7 := HA6.out.keep hJ
                clear hJ HC6 HZ6 HA6 HR6 HRW6 HBV
                cases bb with
                | false =>
                  have hrw := hr7
                  obtain ⟨w8, hw8⟩ : ∃ x, ((((((W.setCell ⟨(w.heap.size + 1), 0, none⟩ (.int .u32 0)).setCell ⟨(w.heap.size + 1), 1, none⟩ (.int .u32 0)).setCell ⟨(w.heap.size + 1), 2, none⟩ (.int .u16 0)).setCell ⟨(w.heap.size + 1), 3, none⟩ (.int .u16 0)).setCell ⟨(w.heap.size + 1), 4, none⟩ (.int .u32 0)).setCell ⟨(w.heap.size + 1), 5, none⟩ (.slice none 0 0)) = x := ⟨_, rfl⟩
                  have hA4 : Arr _ (w.heap.size + 1) 43 [.int .u32 0, .int .u32 0, .int .u16 0, .int .u16 0, .int .u32 0, .slice none 0 0] := ((((((hz7.set 0 (.int .u32 0)).set 1 (.int .u32 0)).set 2 (.int .u16 0)).set 3 (.int .u16 0)).set 4 (.int .u32 0)).set 5 (.slice none 0 0))
                  have hB4 := ((((((hB7.setCell (p := ⟨(w.heap.size + 1), 0, none⟩) (by simp) (.int .u32 0)).setCell (p := ⟨(w.heap.size + 1), 1, none⟩) (by simp) (.int .u32 0)).setCell (p := ⟨(w.heap.size + 1), 2, none⟩) (by simp) (.int .u16 0)).setCell (p := ⟨(w.heap.size + 1), 3, none⟩) (by simp) (.int .u16 0)).setCell (p := ⟨(w.heap.size + 1), 4, none⟩) (by simp) (.int .u32 0)).setCell (p := ⟨(w.heap.size + 1), 5, none⟩) (by simp) (.slice none 0 0))
                  have hrw4 := ((((((hrw.setAt hz7 (by decide) 0 (.int .u32 0)).setAt (hz7.set 0 (.int .u32 0)) (by decide) 1 (.int .u32 0)).setAt ((hz7.set 0 (.int .u32 0)).set 1 (.int .u32 0)) (by decide) 2 (.int .u16 0)).setAt (((hz7.set 0 (.int .u32 0)).set 1 (.int .u32 0)).set 2 (.int .u16 0)) (by decide) 3 (.int .u16 0)).setAt ((((hz7.set 0 (.int .u32 0)).set 1 (.int .u32 0)).set 2 (.int .u16 0)).set 3 (.int .u16 0)) (by decide) 4 (.int .u32 0)).setAt (((((hz7.set 0 (.int .u32 0)).set 1 (.int .u32 0)).set 2 (.int .u16 0)).set 3 (.int .u16 0)).set 4 (.int .u32 0)) (by decide) 5 (.slice none 0 0))
                  rw [hw8] at hA4 hB4 hrw4
                  have fs0 := hz7.free 0
                  have fs1 := hz7.free 1
                  have fs2 := hz7.free 2
                  have fs3 := hz7.free 3
                  have fs4 := hz7.free 4
                  have fs5 := hz7.free 5
                  have yy0 := hz7.cell (i := 0) rfl
                  have yy1 := hz7.cell (i := 1) rfl
                  have yy2 := hz7.cell (i := 2) rfl
                  have yy3 := hz7.cell (i := 3) rfl
                  have yy4 := hz7.cell (i := 4) rfl
                  have yy5 := hz7.cell (i := 5) rfl
                  have zz0 := hA4.cell (i := 0) rfl
                  have zz1 := hA4.cell (i := 1) rfl
                  have zz2 := hA4.cell (i := 2) rfl
                  have zz3 := hA4.cell (i := 3) rfl
                  have zz4 := hA4.cell (i := 4) rfl
                  have zz5 := hA4.cell (i := 5) rfl
                  have HE := Lib.hid (And.intro hB4 hrw4)
                  clear hA4 hB4 hrw hrw4 hz7 hB7 hr7 hd7
                  go_wp2
                  refine bodyPost_ret (by simp [results, Try.results25, go_sem, zz0, zz1, zz2, zz3, zz4, zz5] <;> rfl) rfl ?_
                  obtain ⟨hcke, hckl⟩ := HCK.out
                  rw [hcke, hckl]
                  have hbb := HBB.out
                  exact ⟨a5, m, .inr ⟨by rw [← hbb]; simp, rfl⟩, HE.out.1, HE.out.2⟩
                | true =>
                  have dd0 := hd7.cell (i := 0) rfl
                  have dd1 := hd7.cell (i := 1) rfl
                  have dd2 := hd7.cell (i := 2) rfl
                  have dd3 := hd7.cell (i := 3) rfl
                  have dd4 := hd7.cell (i := 4) rfl
                  have dd5 := hd7.cell (i := 5) rfl
                  have hrw := hr7
                  obtain ⟨w8, hw8⟩ : ∃ x, ((((((W.setCell ⟨(w.heap.size + 1), 0, none⟩ (.int .u32 x0)).setCell ⟨(w.heap.size + 1), 1, none⟩ (.int .u32 x1)).setCell ⟨(w.heap.size + 1), 2, none⟩ (.int .u16 x2)).setCell ⟨(w.heap.size + 1), 3, none⟩ (.int .u16 x3)).setCell ⟨(w.heap.size + 1), 4, none⟩ (.int .u32 x4)).setCell ⟨(w.heap.size + 1), 5, none⟩ (.slice a5 m m)) = x := ⟨_, rfl⟩
                  have hA4 : Arr _ (w.heap.size + 1) 43 [.int .u32 x0, .int .u32 x1, .int .u16 x2, .int .u16 x3, .int .u32 x4, .slice a5 m m] := ((((((hz7.set 0 (.int .u32 x0)).set 1 (.int .u32 x1)).set 2 (.int .u16 x2)).set 3 (.int .u16 x3)).set 4 (.int .u32 x4)).set 5 (.slice a5 m m))
                  have hB4 := ((((((hB7.setCell (p := ⟨(w.heap.size + 1), 0, none⟩) (by simp) (.int .u32 x0)).setCell (p := ⟨(w.heap.size + 1), 1, none⟩) (by simp) (.int .u32 x1)).setCell (p := ⟨(w.heap.size + 1), 2, none⟩) (by simp) (.int .u16 x2)).setCell (p := ⟨(w.heap.size + 1), 3, none⟩) (by simp) (.int .u16 x3)).setCell (p := ⟨(w.heap.size + 1), 4, none⟩) (by simp) (.int .u32 x4)).setCell (p := ⟨(w.heap.size + 1), 5, none⟩) (by simp) (.slice a5 m m))
                  have hrw4 := ((((((hrw.setAt hz7 (by decide) 0 (.int .u32 x0)).setAt (hz7.set 0 (.int .u32 x0)) (by decide) 1 (.int .u32 x1)).setAt ((hz7.set 0 (.int .u32 x0)).set 1 (.int .u32 x1)) (by decide) 2 (.int .u16 x2)).setAt (((hz7.set 0 (.int .u32 x0)).set 1 (.int .u32 x1)).set 2 (.int .u16 x2)) (by decide) 3 (.int .u16 x3)).setAt ((((hz7.set 0 (.int .u32 x0)).set 1 (.int .u32 x1)).set 2 (.int .u16 x2)).set 3 (.int .u16 x3)) (by decide) 4 (.int .u32 x4)).setAt (((((hz7.set 0 (.int .u32 x0)).set 1 (.int .u32 x1)).set 2 (.int .u16 x2)).set 3 (.int .u16 x3)).set 4 (.int .u32 x4)) (by decide) 5 (.slice a5 m m))
                  rw [hw8] at hA4 hB4 hrw4
                  have fs0 := hz7.free 0
                  have fs1 := hz7.free 1
                  have fs2 := hz7.free 2
                  have fs3 := hz7.free 3
                  have fs4 := hz7.free 4
                  have fs5 := hz7.free 5
                  have yy0 := hz7.cell (i := 0) rfl
                  have yy1 := hz7.cell (i := 1) rfl
                  have yy2 := hz7.cell (i := 2) rfl
                  have yy3 := hz7.cell (i := 3) rfl
                  have yy4 := hz7.cell (i := 4) rfl
                  have yy5 := hz7.cell (i := 5) rfl
                  have zz0 := hA4.cell (i := 0) rfl
                  have zz1 := hA4.cell (i := 1) rfl
                  have zz2 := hA4.cell (i := 2) rfl
                  have zz3 := hA4.cell (i := 3) rfl
                  have zz4 := hA4.cell (i := 4) rfl
                  have zz5 := hA4.cell (i := 5) rfl
                  have HE := Lib.hid (And.intro hB4 hrw4)
                  clear hA4 hB4 hrw hrw4 hz7 hB7 hr7 hd7
                  go_wp2
                  refine bodyPost_ret (by simp [results, Try.results25, go_sem, zz0, zz1, zz2, zz3, zz4, zz5] <;> rfl) rfl ?_
                  obtain ⟨hcke, hckl⟩ := HCK.out
                  rw [hcke, hckl]
                  have hbb := HBB.out
                  have hpos : 0 < m := by have := HM5.out; have := HM1.out; omega
                  exact ⟨a5, m, .inl ⟨by rw [← hbb]; simp [initOk, NH0Z.out, NH2Z.out, NH3Z.out, hpos], rfl⟩, HE.out.1, HE.out.2⟩

set_option maxRecDepth 100000 in
set_option maxHeartbeats 1600000 in
theorem rgetInit_ini (f : Int) (p : Option Addr) (n c : Nat) (zs : List Int) (w : World) (hr : Reads w p n zs) (hz : Byt zs) (hc : n ≤ c) (hn : n ≤ 281474976) (x0 : Int) (hxx0 : natAt zs 0 4 = x0) (x1 : Int) (hxx1 : natAt zs 4 4 = x1) (x2 : Int) (hxx2 : natAt zs 8 2 = x2) (x3 : Int) (hxx3 : natAt zs 10 2 = x3) (x4 : Int) (hxx4 : natAt zs 12 4 = x4) (hm : 16 ≤ n) :
    Calls Try.prog 25 #[.agg #[.int .u8 1, .int .u8 f, .slice p n c]] w fun e w' => ∃ a1 c1, Chose (initOk 1 x0 x2 x3 (([] : List Int)).length && eqC 1 0 (initB 1 x0 x1 x2 x3 x4 (([] : List Int))) 1 f zs) (.agg #[.int .u32 x0, .int .u32 x1, .int .u16 x2, .int .u16 x3, .int .u32 x4, .slice a1 ((([] : List Int)).length) c1]) (.agg #[.int .u32 0, .int .u32 0, .int .u16 0, .int .u16 0, .int .u32 0, .slice none 0 0]) e ∧ Below w.heap.size w w' ∧ Row8 w.heap.size w' a1 ((([] : List Int)).length) c1 (([] : List Int)) := by
  have HNx0 := Lib.hid (show ∀ W, Reads W p n zs → Calls Try.prog 53 #[.slice p n c, .int .i64 0, .int .i64 4] W fun e w' => e = .returned (.int .u64 x0) ∧ Below W.heap.size W w' from fun W h => hxx0 ▸ numR_any p n c 0 4 zs W h hz hc (by omega) (by omega) rfl)
  obtain ⟨lox0, hix0⟩ : 0 ≤ x0 ∧ x0 < 4294967296 := hxx0 ▸ natAt4 hz 0
  have HNx1 := Lib.hid (show ∀ W, Reads W p n zs → Calls Try.prog 53 #[.slice p n c, .int .i64 4, .int .i64 4] W fun e w' => e = .returned (.int .u64 x1) ∧ Below W.heap.size W w' from fun W h => hxx1 ▸ numR_any p n c 4 4 zs W h hz hc (by omega) (by omega) rfl)
  obtain ⟨lox1, hix1⟩ : 0 ≤ x1 ∧ x1 < 4294967296 := hxx1 ▸ natAt4 hz 4
  have HNx2 := Lib.hid (show ∀ W, Reads W p n zs → Calls Try.prog 53 #[.slice p n c, .int .i64 8, .int .i64 2] W fun e w' => e = .returned (.int .u64 x2) ∧ Below W.heap.size W w' from fun W h => hxx2 ▸ numR_any p n c 8 2 zs W h hz hc (by omega) (by omega) rfl)
  obtain ⟨lox2, hix2⟩ : 0 ≤ x2 ∧ x2 < 65536 := hxx2 ▸ natAt2 hz 8
  have HNx3 := Lib.hid (show ∀ W, Reads W p n zs → Calls Try.prog 53 #[.slice p n c, .int .i64 10, .int .i64 2] W fun e w' => e = .returned (.int .u64 x3) ∧ Below W.heap.size W w' from fun W h => hxx3 ▸ numR_any p n c 10 2 zs W h hz hc (by omega) (by omega) rfl)
  obtain ⟨lox3, hix3⟩ : 0 ≤ x3 ∧ x3 < 65536 := hxx3 ▸ natAt2 hz 10
  have HNx4 := Lib.hid (show ∀ W, Reads W p n zs → Calls Try.prog 53 #[.slice p n c, .int .i64 12, .int .i64 4] W fun e w' => e = .returned (.int .u64 x4) ∧ Below W.heap.size W w' from fun W h => hxx4 ▸ numR_any p n c 12 4 zs W h hz hc (by omega) (by omega) rfl)
  obtain ⟨lox4, hix4⟩ : 0 ≤ x4 ∧ x4 < 4294967296 := hxx4 ▸ natAt4 hz 12
  obtain ⟨wa, hwa⟩ : ∃ wa, w.alloc (.cells #[.int .u8 1, .int .u8 f, .slice p n c] 28) = wa := ⟨_, rfl⟩
  have hba : Below w.heap.size w wa := by rw [← hwa]; exact chunkBelow w 1 f _
  have hsa : wa.heap.size = w.heap.size + 1 := by rw [← hwa]; simp
  have hca : Arr wa w.heap.size 28 [.int .u8 1, .int .u8 f, .slice p n c] := by rw [← hwa]; exact chunkBox w 1 f _
  obtain ⟨wE, hwE⟩ : ∃ wE, wa.alloc (.cells #[.int .u32 0, .int .u32 0, .int .u16 0, .int .u16 0, .int .u32 0, .slice none 0 0] 43) = wE := ⟨_, rfl⟩
  have hbE0 : Below wa.heap.size wa wE := by rw [← hwE]; exact (Below.refl _ _).alloc (Nat.le_refl _) _
  have hsE : wE.heap.size = w.heap.size + 2 := by rw [← hwE]; simp; omega
  have hzE : Arr wE (w.heap.size + 1) 43 [.int .u32 0, .int .u32 0, .int .u16 0, .int .u16 0, .int .u32 0, .slice none 0 0] := by rw [← hwE, ← hsa]; exact arr_new _ _ _
  have hcE := hca.keep hbE0
  have hbE := hba.trans (hbE0.mono hba.size)
  have hr2 := hr.below hbE
  have hmi : ¬ (n : Int) < 16 := by omega
  have HRW := Lib.hid (show ∀ W, Below wE.heap.size wE W → Reads W p n zs from fun W h => hr2.below h)
  have HC := Lib.hid hcE
  have HZ := Lib.hid hzE
  have HBE := Lib.hid (And.intro hbE hsE)
  have cc0 := hcE.cell (i := 0) rfl
  have cc1 := hcE.cell (i := 1) rfl
  have cc2 := hcE.cell (i := 2) rfl
  clear hba hca hbE0 hzE hcE hbE hr hr2 hxx0 hxx1 hxx2 hxx3 hxx4
  go_enter Try.func25, Try.ntmps25
  go_wp2_with fail
  clear cc0 cc1 cc2
  refine wp_region_any (by kernel_rfl) ?_
  refine Vals.wpAny_goodLast (GInR w wE 1 f x0 x1 x2 x3 x4 p n c) (fun W => Below wE.heap.size wE W) [some 23, some 24, some 25, some 26, some 27, some 28, some 29, some 30, some 31, some 32, some 33, some 34, some 35, some 36, some 37, some 38, some 39, some 40, some 41, some 42, some 43, some 4, none] 22 92 _ _ rfl (by kernel_rfl) (by kernel_rfl) (by kernel_rfl) (by decide) rfl ?step ?fin (Below.refl _ _).drew
  case step =>
    intro i o d ho hd hiN a W hJ hdf hdep hfr K hK
    match i, ho, hd with
    | 0, ho, hd =>
      have ho' := ho
      simp only [List.getElem?_toArray, List.getElem?_cons_zero, Option.some.injEq] at ho hd
      subst ho hd
      have r1 : a.eval (.tmp 1) = .pointer (some ⟨w.heap.size, 0, none⟩) := hfr 1 (by decide)
      rw [Vals.eval_tmp] at r1
      refine Vals.wpOp_run ho' rfl ?_
      clear hdep hfr ho' hdf
      go_simp
      exact hK _ _ (fun _ _ h => h) hJ (fun _ => rfl)
    | 1, ho, hd =>
      have ho' := ho
      simp only [List.getElem?_toArray, List.getElem?_cons_zero, List.getElem?_cons_succ, Option.some.injEq] at ho hd
      subst ho hd
      have r23 : a.eval (.tmp 23) = .pointer (some ⟨w.heap.size, 2, none⟩) := hdep ⟨0, .data⟩ (by simp) rfl 23 rfl
      rw [Vals.eval_tmp] at r23
      have c0 := (HC.out.keep hJ).cell (i := 2) rfl
      refine Vals.wpOp_run ho' rfl ?_
      clear hdep hfr ho' hdf
      go_simp
      exact hK _ _ (fun _ _ h => h) hJ (fun _ => rfl)
    | 2, ho, hd =>
      have ho' := ho
      simp only [List.getElem?_toArray, List.getElem?_cons_zero, List.getElem?_cons_succ, Option.some.injEq] at ho hd
      subst ho hd
      have r24 : a.eval (.tmp 24) = .slice p n c := hdep ⟨1, .data⟩ (by simp) rfl 24 rfl
      rw [Vals.eval_tmp] at r24
      refine Vals.wpOp_run ho' rfl ?_
      clear hdep hfr ho' hdf
      go_simp
      refine (HNx0.out W (HRW.out W hJ)).mono ?_
      rintro e w' ⟨rfl, hb3⟩
      exact hK _ _ (GInR_mono hb3) (hJ.trans (hb3.mono hJ.size)) (fun _ => rfl)
    | 3, ho, hd =>
      have ho' := ho
      simp only [List.getElem?_toArray, List.getElem?_cons_zero, List.getElem?_cons_succ, Option.some.injEq] at ho hd
      subst ho hd
      have r25 : a.eval (.tmp 25) = .int .u64 x0 := hdep ⟨2, .data⟩ (by simp) rfl 25 rfl
      rw [Vals.eval_tmp] at r25
      refine Vals.wpOp_run ho' rfl ?_
      clear hdep hfr ho' hdf
      go_simp
      exact hK _ _ (fun _ _ h => h) hJ (fun _ => (by first | rfl | exact congrArg (Value.int _) (Int.emod_eq_of_lt (by assumption) (by assumption))))
    | 4, ho, hd =>
      have ho' := ho
      simp only [List.getElem?_toArray, List.getElem?_cons_zero, List.getElem?_cons_succ, Option.some.injEq] at ho hd
      subst ho hd
      have r1 : a.eval (.tmp 1) = .pointer (some ⟨w.heap.size, 0, none⟩) := hfr 1 (by decide)
      rw [Vals.eval_tmp] at r1
      refine Vals.wpOp_run ho' rfl ?_
      clear hdep hfr ho' hdf
      go_simp
      exact hK _ _ (fun _ _ h => h) hJ (fun _ => rfl)
    | 5, ho, hd =>
      have ho' := ho
      simp only [List.getElem?_toArray, List.getElem?_cons_zero, List.getElem?_cons_succ, Option.some.injEq] at ho hd
      subst ho hd
      have r27 : a.eval (.tmp 27) = .pointer (some ⟨w.heap.size, 2, none⟩) := hdep ⟨4, .data⟩ (by simp) rfl 27 rfl
      rw [Vals.eval_tmp] at r27
      have c0 := (HC.out.keep hJ).cell (i := 2) rfl
      refine Vals.wpOp_run ho' rfl ?_
      clear hdep hfr ho' hdf
      go_simp
      exact hK _ _ (fun _ _ h => h) hJ (fun _ => rfl)
    | 6, ho, hd =>
      have ho' := ho
      simp only [List.getElem?_toArray, List.getElem?_cons_zero, List.getElem?_cons_succ, Option.some.injEq] at ho hd
      subst ho hd
      have r28 : a.eval (.tmp 28) = .slice p n c := hdep ⟨5, .data⟩ (by simp) rfl 28 rfl
      rw [Vals.eval_tmp] at r28
      refine Vals.wpOp_run ho' rfl ?_
      clear hdep hfr ho' hdf
      go_simp
      refine (HNx1.out W (HRW.out W hJ)).mono ?_
      rintro e w' ⟨rfl, hb3⟩
      exact hK _ _ (GInR_mono hb3) (hJ.trans (hb3.mono hJ.size)) (fun _ => rfl)
    | 7, ho, hd =>
      have ho' := ho
      simp only [List.getElem?_toArray, List.getElem?_cons_zero, List.getElem?_cons_succ, Option.some.injEq] at ho hd
      subst ho hd
      have r29 : a.eval (.tmp 29) = .int .u64 x1 := hdep ⟨6, .data⟩ (by simp) rfl 29 rfl
      rw [Vals.eval_tmp] at r29
      refine Vals.wpOp_run ho' rfl ?_
      clear hdep hfr ho' hdf
      go_simp
      exact hK _ _ (fun _ _ h => h) hJ (fun _ => (by first | rfl | exact congrArg (Value.int _) (Int.emod_eq_of_lt (by assumption) (by assumption))))
    | 8, ho, hd =>
      have ho' := ho
      simp only [List.getElem?_toArray, List.getElem?_cons_zero, List.getElem?_cons_succ, Option.some.injEq] at ho hd
      subst ho hd
      have r1 : a.eval (.tmp 1) = .pointer (some ⟨w.heap.size, 0, none⟩) := hfr 1 (by decide)
      rw [Vals.eval_tmp] at r1
      refine Vals.wpOp_run ho' rfl ?_
      clear hdep hfr ho' hdf
      go_simp
      exact hK _ _ (fun _ _ h => h) hJ (fun _ => rfl)
    | 9, ho, hd =>
      have ho' := ho
      simp only [List.getElem?_toArray, List.getElem?_cons_zero, List.getElem?_cons_succ, Option.some.injEq] at ho hd
      subst ho hd
      have r31 : a.eval (.tmp 31) = .pointer (some ⟨w.heap.size, 2, none⟩) := hdep ⟨8, .data⟩ (by simp) rfl 31 rfl
      rw [Vals.eval_tmp] at r31
      have c0 := (HC.out.keep hJ).cell (i := 2) rfl
      refine Vals.wpOp_run ho' rfl ?_
      clear hdep hfr ho' hdf
      go_simp
      exact hK _ _ (fun _ _ h => h) hJ (fun _ => rfl)
    | 10, ho, hd =>
      have ho' := ho
      simp only [List.getElem?_toArray, List.getElem?_cons_zero, List.getElem?_cons_succ, Option.some.injEq] at ho hd
      subst ho hd
      have r32 : a.eval (.tmp 32) = .slice p n c := hdep ⟨9, .data⟩ (by simp) rfl 32 rfl
      rw [Vals.eval_tmp] at r32
      refine Vals.wpOp_run ho' rfl ?_
      clear hdep hfr ho' hdf
      go_simp
      refine (HNx2.out W (HRW.out W hJ)).mono ?_
      rintro e w' ⟨rfl, hb3⟩
      exact hK _ _ (GInR_mono hb3) (hJ.trans (hb3.mono hJ.size)) (fun _ => rfl)
    | 11, ho, hd =>
      have ho' := ho
      simp only [List.getElem?_toArray, List.getElem?_cons_zero, List.getElem?_cons_succ, Option.some.injEq] at ho hd
      subst ho hd
      have r33 : a.eval (.tmp 33) = .int .u64 x2 := hdep ⟨10, .data⟩ (by simp) rfl 33 rfl
      rw [Vals.eval_tmp] at r33
      refine Vals.wpOp_run ho' rfl ?_
      clear hdep hfr ho' hdf
      go_simp
      exact hK _ _ (fun _ _ h => h) hJ (fun _ => (by first | rfl | exact congrArg (Value.int _) (Int.emod_eq_of_lt (by assumption) (by assumption))))
    | 12, ho, hd =>
      have ho' := ho
      simp only [List.getElem?_toArray, List.getElem?_cons_zero, List.getElem?_cons_succ, Option.some.injEq] at ho hd
      subst ho hd
      have r1 : a.eval (.tmp 1) = .pointer (some ⟨w.heap.size, 0, none⟩) := hfr 1 (by decide)
      rw [Vals.eval_tmp] at r1
      refine Vals.wpOp_run ho' rfl ?_
      clear hdep hfr ho' hdf
      go_simp
      exact hK _ _ (fun _ _ h => h) hJ (fun _ => rfl)
    | 13, ho, hd =>
      have ho' := ho
      simp only [List.getElem?_toArray, List.getElem?_cons_zero, List.getElem?_cons_succ, Option.some.injEq] at ho hd
      subst ho hd
      have r35 : a.eval (.tmp 35) = .pointer (some ⟨w.heap.size, 2, none⟩) := hdep ⟨12, .data⟩ (by simp) rfl 35 rfl
      rw [Vals.eval_tmp] at r35
      have c0 := (HC.out.keep hJ).cell (i := 2) rfl
      refine Vals.wpOp_run ho' rfl ?_
      clear hdep hfr ho' hdf
      go_simp
      exact hK _ _ (fun _ _ h => h) hJ (fun _ => rfl)
    | 14, ho, hd =>
      have ho' := ho
      simp only [List.getElem?_toArray, List.getElem?_cons_zero, List.getElem?_cons_succ, Option.some.injEq] at ho hd
      subst ho hd
      have r36 : a.eval (.tmp 36) = .slice p n c := hdep ⟨13, .data⟩ (by simp) rfl 36 rfl
      rw [Vals.eval_tmp] at r36
      refine Vals.wpOp_run ho' rfl ?_
      clear hdep hfr ho' hdf
      go_simp
      refine (HNx3.out W (HRW.out W hJ)).mono ?_
      rintro e w' ⟨rfl, hb3⟩
      exact hK _ _ (GInR_mono hb3) (hJ.trans (hb3.mono hJ.size)) (fun _ => rfl)
    | 15, ho, hd =>
      have ho' := ho
      simp only [List.getElem?_toArray, List.getElem?_cons_zero, List.getElem?_cons_succ, Option.some.injEq] at ho hd
      subst ho hd
      have r37 : a.eval (.tmp 37) = .int .u64 x3 := hdep ⟨14, .data⟩ (by simp) rfl 37 rfl
      rw [Vals.eval_tmp] at r37
      refine Vals.wpOp_run ho' rfl ?_
      clear hdep hfr ho' hdf
      go_simp
      exact hK _ _ (fun _ _ h => h) hJ (fun _ => (by first | rfl | exact congrArg (Value.int _) (Int.emod_eq_of_lt (by assumption) (by assumption))))
    | 16, ho, hd =>
      have ho' := ho
      simp only [List.getElem?_toArray, List.getElem?_cons_zero, List.getElem?_cons_succ, Option.some.injEq] at ho hd
      subst ho hd
      have r1 : a.eval (.tmp 1) = .pointer (some ⟨w.heap.size, 0, none⟩) := hfr 1 (by decide)
      rw [Vals.eval_tmp] at r1
      refine Vals.wpOp_run ho' rfl ?_
      clear hdep hfr ho' hdf
      go_simp
      exact hK _ _ (fun _ _ h => h) hJ (fun _ => rfl)
    | 17, ho, hd =>
      have ho' := ho
      simp only [List.getElem?_toArray, List.getElem?_cons_zero, List.getElem?_cons_succ, Option.some.injEq] at ho hd
      subst ho hd
      have r39 : a.eval (.tmp 39) = .pointer (some ⟨w.heap.size, 2, none⟩) := hdep ⟨16, .data⟩ (by simp) rfl 39 rfl
      rw [Vals.eval_tmp] at r39
      have c0 := (HC.out.keep hJ).cell (i := 2) rfl
      refine Vals.wpOp_run ho' rfl ?_
      clear hdep hfr ho' hdf
      go_simp
      exact hK _ _ (fun _ _ h => h) hJ (fun _ => rfl)
    | 18, ho, hd =>
      have ho' := ho
      simp only [List.getElem?_toArray, List.getElem?_cons_zero, List.getElem?_cons_succ, Option.some.injEq] at ho hd
      subst ho hd
      have r40 : a.eval (.tmp 40) = .slice p n c := hdep ⟨17, .data⟩ (by simp) rfl 40 rfl
      rw [Vals.eval_tmp] at r40
      refine Vals.wpOp_run ho' rfl ?_
      clear hdep hfr ho' hdf
      go_simp
      refine (HNx4.out W (HRW.out W hJ)).mono ?_
      rintro e w' ⟨rfl, hb3⟩
      exact hK _ _ (GInR_mono hb3) (hJ.trans (hb3.mono hJ.size)) (fun _ => rfl)
    | 19, ho, hd =>
      have ho' := ho
      simp only [List.getElem?_toArray, List.getElem?_cons_zero, List.getElem?_cons_succ, Option.some.injEq] at ho hd
      subst ho hd
      have r41 : a.eval (.tmp 41) = .int .u64 x4 := hdep ⟨18, .data⟩ (by simp) rfl 41 rfl
      rw [Vals.eval_tmp] at r41
      refine Vals.wpOp_run ho' rfl ?_
      clear hdep hfr ho' hdf
      go_simp
      exact hK _ _ (fun _ _ h => h) hJ (fun _ => (by first | rfl | exact congrArg (Value.int _) (Int.emod_eq_of_lt (by assumption) (by assumption))))
    | 20, ho, hd =>
      have ho' := ho
      simp only [List.getElem?_toArray, List.getElem?_cons_zero, List.getElem?_cons_succ, Option.some.injEq] at ho hd
      subst ho hd
      have r26 : a.eval (.tmp 26) = .int .u32 x0 := hdep ⟨3, .data⟩ (by simp) rfl 26 rfl
      rw [Vals.eval_tmp] at r26
      have r30 : a.eval (.tmp 30) = .int .u32 x1 := hdep ⟨7, .data⟩ (by simp) rfl 30 rfl
      rw [Vals.eval_tmp] at r30
      have r34 : a.eval (.tmp 34) = .int .u16 x2 := hdep ⟨11, .data⟩ (by simp) rfl 34 rfl
      rw [Vals.eval_tmp] at r34
      have r38 : a.eval (.tmp 38) = .int .u16 x3 := hdep ⟨15, .data⟩ (by simp) rfl 38 rfl
      rw [Vals.eval_tmp] at r38
      have r42 : a.eval (.tmp 42) = .int .u32 x4 := hdep ⟨19, .data⟩ (by simp) rfl 42 rfl
      rw [Vals.eval_tmp] at r42
      refine Vals.wpOp_run ho' rfl ?_
      clear hdep hfr ho' hdf
      go_simp
      exact hK _ _ (fun _ _ h => h) hJ (fun _ => rfl)
    | 21, ho, hd =>
      have ho' := ho
      simp only [List.getElem?_toArray, List.getElem?_cons_zero, List.getElem?_cons_succ, Option.some.injEq] at ho hd
      subst ho hd
      refine Vals.wpOp_run ho' rfl ?_
      clear hdep hfr ho' hdf
      go_simp
      have hb3 : Below W.heap.size W (W.alloc (.cells #[.int .u32 0, .int .u32 0, .int .u16 0, .int .u16 0, .int .u32 0, .slice none 0 0] 43)) := (Below.refl _ _).alloc (Nat.le_refl _) _
      exact hK _ _ (GInR_mono hb3) (hJ.trans (hb3.mono hJ.size)) (fun _ => ⟨_, rfl, hJ.size, arr_new _ _ _⟩)
    | i + 22, ho, hd => omega
  case fin =>
    intro W fq hJ hG
    have q0 : fq 23 = .pointer (some ⟨w.heap.size, 2, none⟩) := hG 0 23 rfl
    have q1 : fq 24 = .slice p n c := hG 1 24 rfl
    have q2 : fq 25 = .int .u64 x0 := hG 2 25 rfl
    have q3 : fq 26 = .int .u32 x0 := hG 3 26 rfl
    have q4 : fq 27 = .pointer (some ⟨w.heap.size, 2, none⟩) := hG 4 27 rfl
    have q5 : fq 28 = .slice p n c := hG 5 28 rfl
    have q6 : fq 29 = .int .u64 x1 := hG 6 29 rfl
    have q7 : fq 30 = .int .u32 x1 := hG 7 30 rfl
    have q8 : fq 31 = .pointer (some ⟨w.heap.size, 2, none⟩) := hG 8 31 rfl
    have q9 : fq 32 = .slice p n c := hG 9 32 rfl
    have q10 : fq 33 = .int .u64 x2 := hG 10 33 rfl
    have q11 : fq 34 = .int .u16 x2 := hG 11 34 rfl
    have q12 : fq 35 = .pointer (some ⟨w.heap.size, 2, none⟩) := hG 12 35 rfl
    have q13 : fq 36 = .slice p n c := hG 13 36 rfl
    have q14 : fq 37 = .int .u64 x3 := hG 14 37 rfl
    have q15 : fq 38 = .int .u16 x3 := hG 15 38 rfl
    have q16 : fq 39 = .pointer (some ⟨w.heap.size, 2, none⟩) := hG 16 39 rfl
    have q17 : fq 40 = .slice p n c := hG 17 40 rfl
    have q18 : fq 41 = .int .u64 x4 := hG 18 41 rfl
    have q19 : fq 42 = .int .u32 x4 := hG 19 42 rfl
    have q20 : fq 43 = .agg #[.int .u32 x0, .int .u32 x1, .int .u16 x2, .int .u16 x3, .int .u32 x4, .slice none 0 0] := hG 20 43 rfl
    obtain ⟨gn_4, q21, hq4_0, hq4_1⟩ : ∃ gn_4, fq 4 = .pointer (some ⟨gn_4, 0, none⟩) ∧ wE.heap.size ≤ gn_4 ∧ Arr W gn_4 43 [.int .u32 0, .int .u32 0, .int .u16 0, .int .u16 0, .int .u32 0, .slice none 0 0] := hG 21 4 rfl
    clear hG
    refine Vals.wpOp_run rfl rfl ?_
    simp only [Vals.puts, Vals.pairs, List.filterMap_cons, List.filterMap_nil, id, List.map_cons, List.map_nil, List.foldl_cons, List.foldl_nil, q0, q1, q2, q3, q4, q5, q6, q7, q8, q9, q10, q11, q12, q13, q14, q15, q16, q17, q18, q19, q20, q21]
    clear q0 q1 q2 q3 q4 q5 q6 q7 q8 q9 q10 q11 q12 q13 q14 q15 q16 q17 q18 q19 q20 q21
    go_frame
    obtain ⟨W4, hW4⟩ : ∃ x, ((((((W.setCell ⟨gn_4, 0, none⟩ (.int .u32 x0)).setCell ⟨gn_4, 1, none⟩ (.int .u32 x1)).setCell ⟨gn_4, 2, none⟩ (.int .u16 x2)).setCell ⟨gn_4, 3, none⟩ (.int .u16 x3)).setCell ⟨gn_4, 4, none⟩ (.int .u32 x4)).setCell ⟨gn_4, 5, none⟩ (.slice none 0 0)) = x := ⟨_, rfl⟩
    have hA4 : Arr _ gn_4 43 [.int .u32 x0, .int .u32 x1, .int .u16 x2, .int .u16 x3, .int .u32 x4, .slice none 0 0] := ((((((hq4_1.set 0 (.int .u32 x0)).set 1 (.int .u32 x1)).set 2 (.int .u16 x2)).set 3 (.int .u16 x3)).set 4 (.int .u32 x4)).set 5 (.slice none 0 0))
    have hB4 := (((((((hJ : Below wE.heap.size wE W).setCell (p := ⟨gn_4, 0, none⟩) hq4_0 (.int .u32 x0)).setCell (p := ⟨gn_4, 1, none⟩) hq4_0 (.int .u32 x1)).setCell (p := ⟨gn_4, 2, none⟩) hq4_0 (.int .u16 x2)).setCell (p := ⟨gn_4, 3, none⟩) hq4_0 (.int .u16 x3)).setCell (p := ⟨gn_4, 4, none⟩) hq4_0 (.int .u32 x4)).setCell (p := ⟨gn_4, 5, none⟩) hq4_0 (.slice none 0 0))
    rw [hW4] at hA4 hB4
    have fr0 := hq4_1.free 0
    have fr1 := hq4_1.free 1
    have fr2 := hq4_1.free 2
    have fr3 := hq4_1.free 3
    have fr4 := hq4_1.free 4
    have fr5 := hq4_1.free 5
    have y0 := hq4_1.cell (i := 0) rfl
    have y1 := hq4_1.cell (i := 1) rfl
    have y2 := hq4_1.cell (i := 2) rfl
    have y3 := hq4_1.cell (i := 3) rfl
    have y4 := hq4_1.cell (i := 4) rfl
    have y5 := hq4_1.cell (i := 5) rfl
    have HA4 := Lib.hid hA4
    have HB4 := Lib.hid hB4
    have HGN := Lib.hid hq4_0
    clear hJ hq4_1 hq4_0 hA4 hB4
    go_simp
    have cc0 := (HC.out.keep HB4.out).cell (i := 0) rfl
    have cc1 := (HC.out.keep HB4.out).cell (i := 1) rfl
    have cc2 := (HC.out.keep HB4.out).cell (i := 2) rfl
    clear fr0 fr1 fr2 fr3 fr4 fr5 y0 y1 y2 y3 y4 y5
    obtain ⟨v6, hv6⟩ : ∃ x, W4 = x := ⟨_, rfl⟩
    have hA6 : Arr v6 gn_4 43 [.int .u32 x0, .int .u32 x1, .int .u16 x2, .int .u16 x3, .int .u32 x4, .slice none 0 0] := by rw [← hv6]; exact HA4.out
    have hB6 : Below wE.heap.size wE v6 := by rw [← hv6]; exact HB4.out
    have hr6 : Row8 w.heap.size v6 none 0 0 [] := Row8.nil _ _
    have hckb : Byt [] := Byt.nil
    clear cc0 cc1 cc2
    have HC6 := Lib.hid (HC.out.keep hB6)
    have HZ6 := Lib.hid (HZ.out.keep hB6)
    have HA6 := Lib.hid hA6
    have HR6 := Lib.hid hr6
    have HRW6 := Lib.hid (HRW.out v6 hB6)
    have HBV := Lib.hid (HBE.out.1.trans (hB6.mono HBE.out.1.size))
    have HCB := Lib.hid hckb
    obtain ⟨bb, hbb⟩ : ∃ bb, bb = eqC 1 0 (initB 1 x0 x1 x2 x3 x4 ([] : List Int)) 1 f zs := ⟨_, rfl⟩
    have HBB := Lib.hid hbb
    have cf0 := HC6.out.cell (i := 0) rfl
    have cf1 := HC6.out.cell (i := 1) rfl
    have cf2 := HC6.out.cell (i := 2) rfl
    have d0 := hA6.cell (i := 0) rfl
    have d1 := hA6.cell (i := 1) rfl
    have d2 := hA6.cell (i := 2) rfl
    have d3 := hA6.cell (i := 3) rfl
    have d4 := hA6.cell (i := 4) rfl
    have d5 := hA6.cell (i := 5) rfl
    clear hbb hA6 hB6 hr6 hckb HA4 HB4
    by_cases hzz : x0 = 0
    case pos =>
      have H0Z := Lib.hid hzz
      go_wp2
      go_quiet (fail)
      have hz7 : Arr (v6.drewN nq) _ _ _ := HZ6.out
      have hB7 : Below w.heap.size w (v6.drewN nq) := below_drewN HBV.out nq
      have hr7 : Row8 w.heap.size (v6.drewN nq) none 0 0 ([] : List Int) := HR6.out.keep (Below.of_drewN v6 nq)
      clear hzz
      generalize v6.drewN nq = w7 at hz7 hB7 hr7 ⊢
      have hrw := hr7
      obtain ⟨w8, hw8⟩ : ∃ x, ((((((w7.setCell ⟨(w.heap.size + 1), 0, none⟩ (.int .u32 0)).setCell ⟨(w.heap.size + 1), 1, none⟩ (.int .u32 0)).setCell ⟨(w.heap.size + 1), 2, none⟩ (.int .u16 0)).setCell ⟨(w.heap.size + 1), 3, none⟩ (.int .u16 0)).setCell ⟨(w.heap.size + 1), 4, none⟩ (.int .u32 0)).setCell ⟨(w.heap.size + 1), 5, none⟩ (.slice none 0 0)) = x := ⟨_, rfl⟩
      have hA4 : Arr _ (w.heap.size + 1) 43 [.int .u32 0, .int .u32 0, .int .u16 0, .int .u16 0, .int .u32 0, .slice none 0 0] := ((((((hz7.set 0 (.int .u32 0)).set 1 (.int .u32 0)).set 2 (.int .u16 0)).set 3 (.int .u16 0)).set 4 (.int .u32 0)).set 5 (.slice none 0 0))
      have hB4 := ((((((hB7.setCell (p := ⟨(w.heap.size + 1), 0, none⟩) (by simp) (.int .u32 0)).setCell (p := ⟨(w.heap.size + 1), 1, none⟩) (by simp) (.int .u32 0)).setCell (p := ⟨(w.heap.size + 1), 2, none⟩) (by simp) (.int .u16 0)).setCell (p := ⟨(w.heap.size + 1), 3, none⟩) (by simp) (.int .u16 0)).setCell (p := ⟨(w.heap.size + 1), 4, none⟩) (by simp) (.int .u32 0)).setCell (p := ⟨(w.heap.size + 1), 5, none⟩) (by simp) (.slice none 0 0))
      have hrw4 := ((((((hrw.setAt hz7 (by decide) 0 (.int .u32 0)).setAt (hz7.set 0 (.int .u32 0)) (by decide) 1 (.int .u32 0)).setAt ((hz7.set 0 (.int .u32 0)).set 1 (.int .u32 0)) (by decide) 2 (.int .u16 0)).setAt (((hz7.set 0 (.int .u32 0)).set 1 (.int .u32 0)).set 2 (.int .u16 0)) (by decide) 3 (.int .u16 0)).setAt ((((hz7.set 0 (.int .u32 0)).set 1 (.int .u32 0)).set 2 (.int .u16 0)).set 3 (.int .u16 0)) (by decide) 4 (.int .u32 0)).setAt (((((hz7.set 0 (.int .u32 0)).set 1 (.int .u32 0)).set 2 (.int .u16 0)).set 3 (.int .u16 0)).set 4 (.int .u32 0)) (by decide) 5 (.slice none 0 0))
      rw [hw8] at hA4 hB4 hrw4
      have fs0 := hz7.free 0
      have fs1 := hz7.free 1
      have fs2 := hz7.free 2
      have fs3 := hz7.free 3
      have fs4 := hz7.free 4
      have fs5 := hz7.free 5
      have yy0 := hz7.cell (i := 0) rfl
      have yy1 := hz7.cell (i := 1) rfl
      have yy2 := hz7.cell (i := 2) rfl
      have yy3 := hz7.cell (i := 3) rfl
      have yy4 := hz7.cell (i := 4) rfl
      have yy5 := hz7.cell (i := 5) rfl
      have zz0 := hA4.cell (i := 0) rfl
      have zz1 := hA4.cell (i := 1) rfl
      have zz2 := hA4.cell (i := 2) rfl
      have zz3 := hA4.cell (i := 3) rfl
      have zz4 := hA4.cell (i := 4) rfl
      have zz5 := hA4.cell (i := 5) rfl
      have HE := Lib.hid (And.intro hB4 hrw4)
      clear hA4 hB4 hrw hrw4 hz7 hB7 hr7 HZ6 HC6 HA6 HR6 HRW6 HBV
      go_wp2
      refine bodyPost_ret (by simp [results, Try.results25, go_sem, zz0, zz1, zz2, zz3, zz4, zz5] <;> rfl) rfl ?_
      exact ⟨none, 0, .inr ⟨by simp [initOk, H0Z.out], rfl⟩, HE.out.1, HE.out.2⟩
    case neg =>
      have hbx0 : (x0 == 0) = false := by simpa using hzz
      have NH0Z := Lib.hid hzz
      clear hzz
      by_cases hzz : x2 = 0
      case pos =>
        have H2Z := Lib.hid hzz
        go_wp2
        go_quiet (fail)
        have hz7 : Arr (v6.drewN nq) _ _ _ := HZ6.out
        have hB7 : Below w.heap.size w (v6.drewN nq) := below_drewN HBV.out nq
        have hr7 : Row8 w.heap.size (v6.drewN nq) none 0 0 ([] : List Int) := HR6.out.keep (Below.of_drewN v6 nq)
        clear hzz
        generalize v6.drewN nq = w7 at hz7 hB7 hr7 ⊢
        have hrw := hr7
        obtain ⟨w8, hw8⟩ : ∃ x, ((((((w7.setCell ⟨(w.heap.size + 1), 0, none⟩ (.int .u32 0)).setCell ⟨(w.heap.size + 1), 1, none⟩ (.int .u32 0)).setCell ⟨(w.heap.size + 1), 2, none⟩ (.int .u16 0)).setCell ⟨(w.heap.size + 1), 3, none⟩ (.int .u16 0)).setCell ⟨(w.heap.size + 1), 4, none⟩ (.int .u32 0)).setCell ⟨(w.heap.size + 1), 5, none⟩ (.slice none 0 0)) = x := ⟨_, rfl⟩
        have hA4 : Arr _ (w.heap.size + 1) 43 [.int .u32 0, .int .u32 0, .int .u16 0, .int .u16 0, .int .u32 0, .slice none 0 0] := ((((((hz7.set 0 (.int .u32 0)).set 1 (.int .u32 0)).set 2 (.int .u16 0)).set 3 (.int .u16 0)).set 4 (.int .u32 0)).set 5 (.slice none 0 0))
        have hB4 := ((((((hB7.setCell (p := ⟨(w.heap.size + 1), 0, none⟩) (by simp) (.int .u32 0)).setCell (p := ⟨(w.heap.size + 1), 1, none⟩) (by simp) (.int .u32 0)).setCell (p := ⟨(w.heap.size + 1), 2, none⟩) (by simp) (.int .u16 0)).setCell (p := ⟨(w.heap.size + 1), 3, none⟩) (by simp) (.int .u16 0)).setCell (p := ⟨(w.heap.size + 1), 4, none⟩) (by simp) (.int .u32 0)).setCell (p := ⟨(w.heap.size + 1), 5, none⟩) (by simp) (.slice none 0 0))
        have hrw4 := ((((((hrw.setAt hz7 (by decide) 0 (.int .u32 0)).setAt (hz7.set 0 (.int .u32 0)) (by decide) 1 (.int .u32 0)).setAt ((hz7.set 0 (.int .u32 0)).set 1 (.int .u32 0)) (by decide) 2 (.int .u16 0)).setAt (((hz7.set 0 (.int .u32 0)).set 1 (.int .u32 0)).set 2 (.int .u16 0)) (by decide) 3 (.int .u16 0)).setAt ((((hz7.set 0 (.int .u32 0)).set 1 (.int .u32 0)).set 2 (.int .u16 0)).set 3 (.int .u16 0)) (by decide) 4 (.int .u32 0)).setAt (((((hz7.set 0 (.int .u32 0)).set 1 (.int .u32 0)).set 2 (.int .u16 0)).set 3 (.int .u16 0)).set 4 (.int .u32 0)) (by decide) 5 (.slice none 0 0))
        rw [hw8] at hA4 hB4 hrw4
        have fs0 := hz7.free 0
        have fs1 := hz7.free 1
        have fs2 := hz7.free 2
        have fs3 := hz7.free 3
        have fs4 := hz7.free 4
        have fs5 := hz7.free 5
        have yy0 := hz7.cell (i := 0) rfl
        have yy1 := hz7.cell (i := 1) rfl
        have yy2 := hz7.cell (i := 2) rfl
        have yy3 := hz7.cell (i := 3) rfl
        have yy4 := hz7.cell (i := 4) rfl
        have yy5 := hz7.cell (i := 5) rfl
        have zz0 := hA4.cell (i := 0) rfl
        have zz1 := hA4.cell (i := 1) rfl
        have zz2 := hA4.cell (i := 2) rfl
        have zz3 := hA4.cell (i := 3) rfl
        have zz4 := hA4.cell (i := 4) rfl
        have zz5 := hA4.cell (i := 5) rfl
        have HE := Lib.hid (And.intro hB4 hrw4)
        clear hA4 hB4 hrw hrw4 hz7 hB7 hr7 HZ6 HC6 HA6 HR6 HRW6 HBV
        go_wp2
        refine bodyPost_ret (by simp [results, Try.results25, go_sem, zz0, zz1, zz2, zz3, zz4, zz5] <;> rfl) rfl ?_
        exact ⟨none, 0, .inr ⟨by simp [initOk, H2Z.out], rfl⟩, HE.out.1, HE.out.2⟩
      case neg =>
        have hbx2 : (x2 == 0) = false := by simpa using hzz
        have NH2Z := Lib.hid hzz
        clear hzz
        by_cases hzz : x3 = 0
        case pos =>
          have H3Z := Lib.hid hzz
          go_wp2
          go_quiet (fail)
          have hz7 : Arr (v6.drewN nq) _ _ _ := HZ6.out
          have hB7 : Below w.heap.size w (v6.drewN nq) := below_drewN HBV.out nq
          have hr7 : Row8 w.heap.size (v6.drewN nq) none 0 0 ([] : List Int) := HR6.out.keep (Below.of_drewN v6 nq)
          clear hzz
          generalize v6.drewN nq = w7 at hz7 hB7 hr7 ⊢
          have hrw := hr7
          obtain ⟨w8, hw8⟩ : ∃ x, ((((((w7.setCell ⟨(w.heap.size + 1), 0, none⟩ (.int .u32 0)).setCell ⟨(w.heap.size + 1), 1, none⟩ (.int .u32 0)).setCell ⟨(w.heap.size + 1), 2, none⟩ (.int .u16 0)).setCell ⟨(w.heap.size + 1), 3, none⟩ (.int .u16 0)).setCell ⟨(w.heap.size + 1), 4, none⟩ (.int .u32 0)).setCell ⟨(w.heap.size + 1), 5, none⟩ (.slice none 0 0)) = x := ⟨_, rfl⟩
          have hA4 : Arr _ (w.heap.size + 1) 43 [.int .u32 0, .int .u32 0, .int .u16 0, .int .u16 0, .int .u32 0, .slice none 0 0] := ((((((hz7.set 0 (.int .u32 0)).set 1 (.int .u32 0)).set 2 (.int .u16 0)).set 3 (.int .u16 0)).set 4 (.int .u32 0)).set 5 (.slice none 0 0))
          have hB4 := ((((((hB7.setCell (p := ⟨(w.heap.size + 1), 0, none⟩) (by simp) (.int .u32 0)).setCell (p := ⟨(w.heap.size + 1), 1, none⟩) (by simp) (.int .u32 0)).setCell (p := ⟨(w.heap.size + 1), 2, none⟩) (by simp) (.int .u16 0)).setCell (p := ⟨(w.heap.size + 1), 3, none⟩) (by simp) (.int .u16 0)).setCell (p := ⟨(w.heap.size + 1), 4, none⟩) (by simp) (.int .u32 0)).setCell (p := ⟨(w.heap.size + 1), 5, none⟩) (by simp) (.slice none 0 0))
          have hrw4 := ((((((hrw.setAt hz7 (by decide) 0 (.int .u32 0)).setAt (hz7.set 0 (.int .u32 0)) (by decide) 1 (.int .u32 0)).setAt ((hz7.set 0 (.int .u32 0)).set 1 (.int .u32 0)) (by decide) 2 (.int .u16 0)).setAt (((hz7.set 0 (.int .u32 0)).set 1 (.int .u32 0)).set 2 (.int .u16 0)) (by decide) 3 (.int .u16 0)).setAt ((((hz7.set 0 (.int .u32 0)).set 1 (.int .u32 0)).set 2 (.int .u16 0)).set 3 (.int .u16 0)) (by decide) 4 (.int .u32 0)).setAt (((((hz7.set 0 (.int .u32 0)).set 1 (.int .u32 0)).set 2 (.int .u16 0)).set 3 (.int .u16 0)).set 4 (.int .u32 0)) (by decide) 5 (.slice none 0 0))
          rw [hw8] at hA4 hB4 hrw4
          have fs0 := hz7.free 0
          have fs1 := hz7.free 1
          have fs2 := hz7.free 2
          have fs3 := hz7.free 3
          have fs4 := hz7.free 4
          have fs5 := hz7.free 5
          have yy0 := hz7.cell (i := 0) rfl
          have yy1 := hz7.cell (i := 1) rfl
          have yy2 := hz7.cell (i := 2) rfl
          have yy3 := hz7.cell (i := 3) rfl
          have yy4 := hz7.cell (i := 4) rfl
          have yy5 := hz7.cell (i := 5) rfl
          have zz0 := hA4.cell (i := 0) rfl
          have zz1 := hA4.cell (i := 1) rfl
          have zz2 := hA4.cell (i := 2) rfl
          have zz3 := hA4.cell (i := 3) rfl
          have zz4 := hA4.cell (i := 4) rfl
          have zz5 := hA4.cell (i := 5) rfl
          have HE := Lib.hid (And.intro hB4 hrw4)
          clear hA4 hB4 hrw hrw4 hz7 hB7 hr7 HZ6 HC6 HA6 HR6 HRW6 HBV
          go_wp2
          refine bodyPost_ret (by simp [results, Try.results25, go_sem, zz0, zz1, zz2, zz3, zz4, zz5] <;> rfl) rfl ?_
          exact ⟨none, 0, .inr ⟨by simp [initOk, H3Z.out], rfl⟩, HE.out.1, HE.out.2⟩
        case neg =>
          have hbx3 : (x3 == 0) = false := by simpa using hzz
          have NH3Z := Lib.hid hzz
          clear hzz
          go_wp2_with fail
          refine wp_region_any (by kernel_rfl) ?_
          refine Vals.wpAny_goodW (GInS w gn_4 1 f x0 x1 x2 x3 x4 p n c none 0 0 ([] : List Int) bb) (fun _ => (fun W => Below v6.heap.size v6 W)) [some 68, some 69, some 70, some 71, some 72, some 73, some 74, some 75, some 76, some 77, some 78, some 79, some 80, some 81, some 82, some 83, some 84, some 85, some 86, some 87, some 88, some 89] 92 _ _ rfl (by kernel_rfl) (by kernel_rfl) (by decide) ?step9 ?fin9 (Below.refl _ _).drew
          case step9 =>
            intro i o d ho hd listed a W hls hun hcl hJ hdf hdep hfr K hK
            match i, ho, hd with
            | 0, ho, hd =>
              have ho' := ho
              simp only [List.getElem?_toArray, List.getElem?_cons_zero, Option.some.injEq] at ho hd
              subst ho hd
              have r4 : a.eval (.tmp 4) = .pointer (some ⟨gn_4, 0, none⟩) := hfr 4 (by decide)
              rw [Vals.eval_tmp] at r4
              refine Vals.wpOp_run ho' rfl ?_
              clear hdep hfr ho' hdf hcl
              go_simp
              exact hK _ _ (fun _ _ h => h) hJ (fun _ => rfl)
            | 1, ho, hd =>
              have ho' := ho
              simp only [List.getElem?_toArray, List.getElem?_cons_zero, List.getElem?_cons_succ, Option.some.injEq] at ho hd
              subst ho hd
              have r68 : a.eval (.tmp 68) = .pointer (some ⟨gn_4, 0, none⟩) := (hdep ⟨0, .data⟩ (by simp) rfl).2 68 rfl
              rw [Vals.eval_tmp] at r68
              have c0 := (HA6.out.keep hJ).cell (i := 0) rfl
              refine Vals.wpOp_run ho' rfl ?_
              clear hdep hfr ho' hdf hcl
              go_simp
              exact hK _ _ (fun _ _ h => h) hJ (fun _ => rfl)
            | 2, ho, hd =>
              have ho' := ho
              simp only [List.getElem?_toArray, List.getElem?_cons_zero, List.getElem?_cons_succ, Option.some.injEq] at ho hd
              subst ho hd
              have r69 : a.eval (.tmp 69) = .int .u32 x0 := (hdep ⟨1, .data⟩ (by simp) rfl).2 69 rfl
              rw [Vals.eval_tmp] at r69
              refine Vals.wpOp_run ho' rfl ?_
              clear hdep hfr ho' hdf hcl
              go_simp
              exact hK _ _ (fun _ _ h => h) hJ (fun _ => rfl)
            | 3, ho, hd =>
              have ho' := ho
              simp only [List.getElem?_toArray, List.getElem?_cons_zero, List.getElem?_cons_succ, Option.some.injEq] at ho hd
              subst ho hd
              have r70 : a.eval (.tmp 70) = .bool false := (hdep ⟨2, .data⟩ (by simp) rfl).2 70 rfl
              rw [Vals.eval_tmp] at r70
              refine Vals.wpOp_run ho' rfl ?_
              clear hdep hfr ho' hdf hcl
              go_simp
              exact hK _ _ (fun _ _ h => h) hJ (fun _ => rfl)
            | 4, ho, hd =>
              have ho' := ho
              simp only [List.getElem?_toArray, List.getElem?_cons_zero, List.getElem?_cons_succ, Option.some.injEq] at ho hd
              subst ho hd
              have hgd : a.eval (.tmp 71) = .bool false := (hdep ⟨3, .guard⟩ (by simp) rfl).2 71 rfl
              have r4 : a.eval (.tmp 4) = .pointer (some ⟨gn_4, 0, none⟩) := hfr 4 (by decide)
              rw [Vals.eval_tmp] at r4
              refine Vals.wpOp_run ho' (by unfold Region.wanted; simp only []; rw [Vals.yielded_of (d := 71) rfl hgd]; rfl) ?_
              clear hdep hfr ho' hdf hgd hcl
              go_simp
              exact hK _ _ (fun _ _ h => h) hJ (fun _ => rfl)
            | 5, ho, hd =>
              have ho' := ho
              simp only [List.getElem?_toArray, List.getElem?_cons_zero, List.getElem?_cons_succ, Option.some.injEq] at ho hd
              subst ho hd
              have hgd : a.eval (.tmp 71) = .bool false := (hdep ⟨3, .guard⟩ (by simp) rfl).2 71 rfl
              have r72 : a.eval (.tmp 72) = .pointer (some ⟨gn_4, 2, none⟩) := (hdep ⟨4, .data⟩ (by simp) rfl).2 72 rfl
              rw [Vals.eval_tmp] at r72
              have c0 := (HA6.out.keep hJ).cell (i := 2) rfl
              refine Vals.wpOp_run ho' (by unfold Region.wanted; simp only []; rw [Vals.yielded_of (d := 71) rfl hgd]; rfl) ?_
              clear hdep hfr ho' hdf hgd hcl
              go_simp
              exact hK _ _ (fun _ _ h => h) hJ (fun _ => rfl)
            | 6, ho, hd =>
              have ho' := ho
              simp only [List.getElem?_toArray, List.getElem?_cons_zero, List.getElem?_cons_succ, Option.some.injEq] at ho hd
              subst ho hd
              have hgd : a.eval (.tmp 71) = .bool false := (hdep ⟨3, .guard⟩ (by simp) rfl).2 71 rfl
              have r73 : a.eval (.tmp 73) = .int .u16 x2 := (hdep ⟨5, .data⟩ (by simp) rfl).2 73 rfl
              rw [Vals.eval_tmp] at r73
              refine Vals.wpOp_run ho' (by unfold Region.wanted; simp only []; rw [Vals.yielded_of (d := 71) rfl hgd]; rfl) ?_
              clear hdep hfr ho' hdf hgd hcl
              go_simp
              exact hK _ _ (fun _ _ h => h) hJ (fun _ => rfl)
            | 7, ho, hd =>
              have ho' := ho
              simp only [List.getElem?_toArray, List.getElem?_cons_zero, List.getElem?_cons_succ, Option.some.injEq] at ho hd
              subst ho hd
              have r71 : a.eval (.tmp 71) = .bool false := (hdep ⟨3, .data⟩ (by simp) rfl).2 71 rfl
              rw [Vals.eval_tmp] at r71
              have r74 : a.eval (.tmp 74) = .bool false := (hdep ⟨6, .data⟩ (by simp) rfl).2 74 rfl
              rw [Vals.eval_tmp] at r74
              refine Vals.wpOp_run ho' rfl ?_
              clear hdep hfr ho' hdf hcl
              go_simp
              exact hK _ _ (fun _ _ h => h) hJ (fun _ => rfl)
            | 8, ho, hd =>
              have ho' := ho
              simp only [List.getElem?_toArray, List.getElem?_cons_zero, List.getElem?_cons_succ, Option.some.injEq] at ho hd
              subst ho hd
              have r75 : a.eval (.tmp 75) = .bool false := (hdep ⟨7, .data⟩ (by simp) rfl).2 75 rfl
              rw [Vals.eval_tmp] at r75
              refine Vals.wpOp_run ho' rfl ?_
              clear hdep hfr ho' hdf hcl
              go_simp
              exact hK _ _ (fun _ _ h => h) hJ (fun _ => rfl)
            | 9, ho, hd =>
              have ho' := ho
              simp only [List.getElem?_toArray, List.getElem?_cons_zero, List.getElem?_cons_succ, Option.some.injEq] at ho hd
              subst ho hd
              have hgd : a.eval (.tmp 76) = .bool false := (hdep ⟨8, .guard⟩ (by simp) rfl).2 76 rfl
              have r4 : a.eval (.tmp 4) = .pointer (some ⟨gn_4, 0, none⟩) := hfr 4 (by decide)
              rw [Vals.eval_tmp] at r4
              refine Vals.wpOp_run ho' (by unfold Region.wanted; simp only []; rw [Vals.yielded_of (d := 76) rfl hgd]; rfl) ?_
              clear hdep hfr ho' hdf hgd hcl
              go_simp
              exact hK _ _ (fun _ _ h => h) hJ (fun _ => rfl)
            | 10, ho, hd =>
              have ho' := ho
              simp only [List.getElem?_toArray, List.getElem?_cons_zero, List.getElem?_cons_succ, Option.some.injEq] at ho hd
              subst ho hd
              have hgd : a.eval (.tmp 76) = .bool false := (hdep ⟨8, .guard⟩ (by simp) rfl).2 76 rfl
              have r77 : a.eval (.tmp 77) = .pointer (some ⟨gn_4, 3, none⟩) := (hdep ⟨9, .data⟩ (by simp) rfl).2 77 rfl
              rw [Vals.eval_tmp] at r77
              have c0 := (HA6.out.keep hJ).cell (i := 3) rfl
              refine Vals.wpOp_run ho' (by unfold Region.wanted; simp only []; rw [Vals.yielded_of (d := 76) rfl hgd]; rfl) ?_
              clear hdep hfr ho' hdf hgd hcl
              go_simp
              exact hK _ _ (fun _ _ h => h) hJ (fun _ => rfl)
            | 11, ho, hd =>
              have ho' := ho
              simp only [List.getElem?_toArray, List.getElem?_cons_zero, List.getElem?_cons_succ, Option.some.injEq] at ho hd
              subst ho hd
              have hgd : a.eval (.tmp 76) = .bool false := (hdep ⟨8, .guard⟩ (by simp) rfl).2 76 rfl
              have r78 : a.eval (.tmp 78) = .int .u16 x3 := (hdep ⟨10, .data⟩ (by simp) rfl).2 78 rfl
              rw [Vals.eval_tmp] at r78
              refine Vals.wpOp_run ho' (by unfold Region.wanted; simp only []; rw [Vals.yielded_of (d := 76) rfl hgd]; rfl) ?_
              clear hdep hfr ho' hdf hgd hcl
              go_simp
              exact hK _ _ (fun _ _ h => h) hJ (fun _ => rfl)
            | 12, ho, hd =>
              have ho' := ho
              simp only [List.getElem?_toArray, List.getElem?_cons_zero, List.getElem?_cons_succ, Option.some.injEq] at ho hd
              subst ho hd
              have r76 : a.eval (.tmp 76) = .bool false := (hdep ⟨8, .data⟩ (by simp) rfl).2 76 rfl
              rw [Vals.eval_tmp] at r76
              have r79 : a.eval (.tmp 79) = .bool false := (hdep ⟨11, .data⟩ (by simp) rfl).2 79 rfl
              rw [Vals.eval_tmp] at r79
              refine Vals.wpOp_run ho' rfl ?_
              clear hdep hfr ho' hdf hcl
              go_simp
              exact hK _ _ (fun _ _ h => h) hJ (fun _ => rfl)
            | 13, ho, hd =>
              have ho' := ho
              simp only [List.getElem?_toArray, List.getElem?_cons_zero, List.getElem?_cons_succ, Option.some.injEq] at ho hd
              subst ho hd
              have r80 : a.eval (.tmp 80) = .bool false := (hdep ⟨12, .data⟩ (by simp) rfl).2 80 rfl
              rw [Vals.eval_tmp] at r80
              refine Vals.wpOp_run ho' rfl ?_
              clear hdep hfr ho' hdf hcl
              go_simp
              exact hK _ _ (fun _ _ h => h) hJ (fun _ => rfl)
            | 14, ho, hd =>
              have ho' := ho
              simp only [List.getElem?_toArray, List.getElem?_cons_zero, List.getElem?_cons_succ, Option.some.injEq] at ho hd
              subst ho hd
              have hgd : a.eval (.tmp 81) = .bool false := (hdep ⟨13, .guard⟩ (by simp) rfl).2 81 rfl
              have r1 : a.eval (.tmp 1) = .pointer (some ⟨w.heap.size, 0, none⟩) := hfr 1 (by decide)
              rw [Vals.eval_tmp] at r1
              refine Vals.wpOp_run ho' (by unfold Region.wanted; simp only []; rw [Vals.yielded_of (d := 81) rfl hgd]; rfl) ?_
              clear hdep hfr ho' hdf hgd hcl
              go_simp
              exact hK _ _ (fun _ _ h => h) hJ (fun _ => rfl)
            | 15, ho, hd =>
              have ho' := ho
              simp only [List.getElem?_toArray, List.getElem?_cons_zero, List.getElem?_cons_succ, Option.some.injEq] at ho hd
              subst ho hd
              have hgd : a.eval (.tmp 81) = .bool false := (hdep ⟨13, .guard⟩ (by simp) rfl).2 81 rfl
              have r82 : a.eval (.tmp 82) = .pointer (some ⟨w.heap.size, 0, none⟩) := (hdep ⟨14, .data⟩ (by simp) rfl).2 82 rfl
              rw [Vals.eval_tmp] at r82
              have c0 := (HC6.out.keep hJ).cell (i := 0) rfl
              refine Vals.wpOp_run ho' (by unfold Region.wanted; simp only []; rw [Vals.yielded_of (d := 81) rfl hgd]; rfl) ?_
              clear hdep hfr ho' hdf hgd hcl
              go_simp
              exact hK _ _ (fun _ _ h => h) hJ (fun _ => rfl)
            | 16, ho, hd =>
              have ho' := ho
              simp only [List.getElem?_toArray, List.getElem?_cons_zero, List.getElem?_cons_succ, Option.some.injEq] at ho hd
              subst ho hd
              have hgd : a.eval (.tmp 81) = .bool false := (hdep ⟨13, .guard⟩ (by simp) rfl).2 81 rfl
              have r4 : a.eval (.tmp 4) = .pointer (some ⟨gn_4, 0, none⟩) := hfr 4 (by decide)
              rw [Vals.eval_tmp] at r4
              have c0 := (HA6.out.keep hJ).cell (i := 0) rfl
              have c1 := (HA6.out.keep hJ).cell (i := 1) rfl
              have c2 := (HA6.out.keep hJ).cell (i := 2) rfl
              have c3 := (HA6.out.keep hJ).cell (i := 3) rfl
              have c4 := (HA6.out.keep hJ).cell (i := 4) rfl
              have c5 := (HA6.out.keep hJ).cell (i := 5) rfl
              refine Vals.wpOp_run ho' (by unfold Region.wanted; simp only []; rw [Vals.yielded_of (d := 81) rfl hgd]; rfl) ?_
              clear hdep hfr ho' hdf hgd hcl
              go_simp
              exact hK _ _ (fun _ _ h => h) hJ (fun _ => rfl)
            | 17, ho, hd =>
              have ho' := ho
              simp only [List.getElem?_toArray, List.getElem?_cons_zero, List.getElem?_cons_succ, Option.some.injEq] at ho hd
              subst ho hd
              have hgd : a.eval (.tmp 81) = .bool false := (hdep ⟨13, .guard⟩ (by simp) rfl).2 81 rfl
              have r83 : a.eval (.tmp 83) = .int .u8 1 := (hdep ⟨15, .data⟩ (by simp) rfl).2 83 rfl
              rw [Vals.eval_tmp] at r83
              have r84 : a.eval (.tmp 84) = .agg #[.int .u32 x0, .int .u32 x1, .int .u16 x2, .int .u16 x3, .int .u32 x4, .slice none 0 0] := (hdep ⟨16, .data⟩ (by simp) rfl).2 84 rfl
              rw [Vals.eval_tmp] at r84
              refine Vals.wpOp_run ho' (by unfold Region.wanted; simp only []; rw [Vals.yielded_of (d := 81) rfl hgd]; rfl) ?_
              clear hdep hfr ho' hdf hgd hcl
              go_simp
              refine (rputInit 1 x0 x1 x2 x3 x4 none 0 0 ([] : List Int) W (HR6.out.reads.below hJ) (by omega) lox0 hix0 lox1 hix1 lox2 hix2 lox3 hix3 lox4 hix4).mono ?_
              rintro e w' ⟨a1, c1, rfl, hb3, hr3⟩
              exact hK _ _ (GInS_mono hb3) (hJ.trans (hb3.mono hJ.size)) (fun _ => ⟨_, _, rfl, hr3.reads⟩)
            | 18, ho, hd =>
              have ho' := ho
              simp only [List.getElem?_toArray, List.getElem?_cons_zero, List.getElem?_cons_succ, Option.some.injEq] at ho hd
              subst ho hd
              have hgd : a.eval (.tmp 81) = .bool false := (hdep ⟨13, .guard⟩ (by simp) rfl).2 81 rfl
              have r1 : a.eval (.tmp 1) = .pointer (some ⟨w.heap.size, 0, none⟩) := hfr 1 (by decide)
              rw [Vals.eval_tmp] at r1
              have c0 := (HC6.out.keep hJ).cell (i := 0) rfl
              have c1 := (HC6.out.keep hJ).cell (i := 1) rfl
              have c2 := (HC6.out.keep hJ).cell (i := 2) rfl
              refine Vals.wpOp_run ho' (by unfold Region.wanted; simp only []; rw [Vals.yielded_of (d := 81) rfl hgd]; rfl) ?_
              clear hdep hfr ho' hdf hgd hcl
              go_simp
              exact hK _ _ (fun _ _ h => h) hJ (fun _ => rfl)
            | 19, ho, hd =>
              have ho' := ho
              simp only [List.getElem?_toArray, List.getElem?_cons_zero, List.getElem?_cons_succ, Option.some.injEq] at ho hd
              subst ho hd
              have hgd : a.eval (.tmp 81) = .bool false := (hdep ⟨13, .guard⟩ (by simp) rfl).2 81 rfl
              have g85 : ∃ a1_85 c1_85, a.eval (.tmp 85) = .agg #[.int .u8 1, .int .u8 0, .slice a1_85 (initB 1 x0 x1 x2 x3 x4 ([] : List Int)).length c1_85] ∧ Reads W a1_85 (initB 1 x0 x1 x2 x3 x4 ([] : List Int)).length (initB 1 x0 x1 x2 x3 x4 ([] : List Int)) := (hdep ⟨17, .data⟩ (by simp) rfl).2 85 rfl
              rw [Vals.eval_tmp] at g85
              obtain ⟨a1_85, c1_85, r85, h85_0⟩ := g85
              have r86 : a.eval (.tmp 86) = .agg #[.int .u8 1, .int .u8 f, .slice p n c] := (hdep ⟨18, .data⟩ (by simp) rfl).2 86 rfl
              rw [Vals.eval_tmp] at r86
              refine Vals.wpOp_run ho' (by unfold Region.wanted; simp only []; rw [Vals.yielded_of (d := 81) rfl hgd]; rfl) ?_
              clear hdep hfr ho' hdf hgd hcl
              go_simp
              refine (rsame_any 1 0 1 f a1_85 p _ n _ c (initB 1 x0 x1 x2 x3 x4 ([] : List Int)) zs W h85_0 (HRW6.out.below hJ) (initB_byt _ _ _ _ _ _ HCB.out) hz (by have := initB_len 1 x0 x1 x2 x3 x4 ([] : List Int); have := HR6.out.len; omega) (by omega)).mono ?_
              rintro e w' ⟨rfl, hb3⟩
              exact hK _ _ (GInS_mono hb3) (hJ.trans (hb3.mono hJ.size)) (fun _ => by show Value.bool _ = Value.bool _; rw [HBB.out])
            | 20, ho, hd =>
              have ho' := ho
              simp only [List.getElem?_toArray, List.getElem?_cons_zero, List.getElem?_cons_succ, Option.some.injEq] at ho hd
              subst ho hd
              have hgd : a.eval (.tmp 81) = .bool false := (hdep ⟨13, .guard⟩ (by simp) rfl).2 81 rfl
              have r87 : a.eval (.tmp 87) = .bool bb := (hdep ⟨19, .data⟩ (by simp) rfl).2 87 rfl
              rw [Vals.eval_tmp] at r87
              refine Vals.wpOp_run ho' (by unfold Region.wanted; simp only []; rw [Vals.yielded_of (d := 81) rfl hgd]; rfl) ?_
              clear hdep hfr ho' hdf hgd hcl
              go_simp
              exact hK _ _ (fun _ _ h => h) hJ (fun _ => rfl)
            | 21, ho, hd =>
              have ho' := ho
              simp only [List.getElem?_toArray, List.getElem?_cons_zero, List.getElem?_cons_succ, Option.some.injEq] at ho hd
              subst ho hd
              have r81 : a.eval (.tmp 81) = .bool false := (hdep ⟨13, .data⟩ (by simp) rfl).2 81 rfl
              rw [Vals.eval_tmp] at r81
              have r88 : a.eval (.tmp 88) = .bool (!bb) := (hdep ⟨20, .data⟩ (by simp) rfl).2 88 rfl
              rw [Vals.eval_tmp] at r88
              refine Vals.wpOp_run ho' rfl ?_
              clear hdep hfr ho' hdf hcl
              go_simp
              exact hK _ _ (fun _ _ h => h) hJ (fun _ => rfl)
            | i + 22, ho, hd => simp at ho
          case fin9 =>
            intro listed W fq2 hall hJ hG
            have q0 : fq2 68 = .pointer (some ⟨gn_4, 0, none⟩) := hG 0 68 rfl
            have q1 : fq2 69 = .int .u32 x0 := hG 1 69 rfl
            have q2 : fq2 70 = .bool false := hG 2 70 rfl
            have q3 : fq2 71 = .bool false := hG 3 71 rfl
            have q4 : fq2 72 = .pointer (some ⟨gn_4, 2, none⟩) := hG 4 72 rfl
            have q5 : fq2 73 = .int .u16 x2 := hG 5 73 rfl
            have q6 : fq2 74 = .bool false := hG 6 74 rfl
            have q7 : fq2 75 = .bool false := hG 7 75 rfl
            have q8 : fq2 76 = .bool false := hG 8 76 rfl
            have q9 : fq2 77 = .pointer (some ⟨gn_4, 3, none⟩) := hG 9 77 rfl
            have q10 : fq2 78 = .int .u16 x3 := hG 10 78 rfl
            have q11 : fq2 79 = .bool false := hG 11 79 rfl
            have q12 : fq2 80 = .bool false := hG 12 80 rfl
            have q13 : fq2 81 = .bool false := hG 13 81 rfl
            have q14 : fq2 82 = .pointer (some ⟨w.heap.size, 0, none⟩) := hG 14 82 rfl
            have q15 : fq2 83 = .int .u8 1 := hG 15 83 rfl
            have q16 : fq2 84 = .agg #[.int .u32 x0, .int .u32 x1, .int .u16 x2, .int .u16 x3, .int .u32 x4, .slice none 0 0] := hG 16 84 rfl
            obtain ⟨a1_85, c1_85, q17, hq85_0⟩ : ∃ a1_85 c1_85, fq2 85 = .agg #[.int .u8 1, .int .u8 0, .slice a1_85 (initB 1 x0 x1 x2 x3 x4 ([] : List Int)).length c1_85] ∧ Reads W a1_85 (initB 1 x0 x1 x2 x3 x4 ([] : List Int)).length (initB 1 x0 x1 x2 x3 x4 ([] : List Int)) := hG 17 85 rfl
            have q18 : fq2 86 = .agg #[.int .u8 1, .int .u8 f, .slice p n c] := hG 18 86 rfl
            have q19 : fq2 87 = .bool bb := hG 19 87 rfl
            have q20 : fq2 88 = .bool (!bb) := hG 20 88 rfl
            have q21 : fq2 89 = .bool (!bb) := hG 21 89 rfl
            clear hG hall
            simp only [Vals.puts, Vals.pairs, List.filterMap_cons, List.filterMap_nil, id, List.map_cons, List.map_nil, List.foldl_cons, List.foldl_nil, q0, q1, q2, q3, q4, q5, q6, q7, q8, q9, q10, q11, q12, q13, q14, q15, q16, q17, q18, q19, q20, q21]
            clear q0 q1 q2 q3 q4 q5 q6 q7 q8 q9 q10 q11 q12 q13 q14 q15 q16 q17 q18 q19 q20 q21
            go_frame
            have hz7 := HZ6.out.keep hJ
            have hB7 := HBV.out.trans (hJ.mono HBV.out.size)
            have hr7 := HR6.out.keep hJ
            have hd7 := HA6.out.keep hJ
            clear hJ HC6 HZ6 HA6 HR6 HRW6 HBV
            cases bb with
            | false =>
              have hrw := hr7
              obtain ⟨w8, hw8⟩ : ∃ x, ((((((W.setCell ⟨(w.heap.size + 1), 0, none⟩ (.int .u32 0)).setCell ⟨(w.heap.size + 1), 1, none⟩ (.int .u32 0)).setCell ⟨(w.heap.size + 1), 2, none⟩ (.int .u16 0)).setCell ⟨(w.heap.size + 1), 3, none⟩ (.int .u16 0)).setCell ⟨(w.heap.size + 1), 4, none⟩ (.int .u32 0)).setCell ⟨(w.heap.size + 1), 5, none⟩ (.slice none 0 0)) = x := ⟨_, rfl⟩
              have hA4 : Arr _ (w.heap.size + 1) 43 [.int .u32 0, .int .u32 0, .int .u16 0, .int .u16 0, .int .u32 0, .slice none 0 0] := ((((((hz7.set 0 (.int .u32 0)).set 1 (.int .u32 0)).set 2 (.int .u16 0)).set 3 (.int .u16 0)).set 4 (.int .u32 0)).set 5 (.slice none 0 0))
              have hB4 := ((((((hB7.setCell (p := ⟨(w.heap.size + 1), 0, none⟩) (by simp) (.int .u32 0)).setCell (p := ⟨(w.heap.size + 1), 1, none⟩) (by simp) (.int .u32 0)).setCell (p := ⟨(w.heap.size + 1), 2, none⟩) (by simp) (.int .u16 0)).setCell (p := ⟨(w.heap.size + 1), 3, none⟩) (by simp) (.int .u16 0)).setCell (p := ⟨(w.heap.size + 1), 4, none⟩) (by simp) (.int .u32 0)).setCell (p := ⟨(w.heap.size + 1), 5, none⟩) (by simp) (.slice none 0 0))
              have hrw4 := ((((((hrw.setAt hz7 (by decide) 0 (.int .u32 0)).setAt (hz7.set 0 (.int .u32 0)) (by decide) 1 (.int .u32 0)).setAt ((hz7.set 0 (.int .u32 0)).set 1 (.int .u32 0)) (by decide) 2 (.int .u16 0)).setAt (((hz7.set 0 (.int .u32 0)).set 1 (.int .u32 0)).set 2 (.int .u16 0)) (by decide) 3 (.int .u16 0)).setAt ((((hz7.set 0 (.int .u32 0)).set 1 (.int .u32 0)).set 2 (.int .u16 0)).set 3 (.int .u16 0)) (by decide) 4 (.int .u32 0)).setAt (((((hz7.set 0 (.int .u32 0)).set 1 (.int .u32 0)).set 2 (.int .u16 0)).set 3 (.int .u16 0)).set 4 (.int .u32 0)) (by decide) 5 (.slice none 0 0))
              rw [hw8] at hA4 hB4 hrw4
              have fs0 := hz7.free 0
              have fs1 := hz7.free 1
              have fs2 := hz7.free 2
              have fs3 := hz7.free 3
              have fs4 := hz7.free 4
              have fs5 := hz7.free 5
              have yy0 := hz7.cell (i := 0) rfl
              have yy1 := hz7.cell (i := 1) rfl
              have yy2 := hz7.cell (i := 2) rfl
              have yy3 := hz7.cell (i := 3) rfl
              have yy4 := hz7.cell (i := 4) rfl
              have yy5 := hz7.cell (i := 5) rfl
              have zz0 := hA4.cell (i := 0) rfl
              have zz1 := hA4.cell (i := 1) rfl
              have zz2 := hA4.cell (i := 2) rfl
              have zz3 := hA4.cell (i := 3) rfl
              have zz4 := hA4.cell (i := 4) rfl
              have zz5 := hA4.cell (i := 5) rfl
              have HE := Lib.hid (And.intro hB4 hrw4)
              clear hA4 hB4 hrw hrw4 hz7 hB7 hr7 hd7
              go_wp2
              refine bodyPost_ret (by simp [results, Try.results25, go_sem, zz0, zz1, zz2, zz3, zz4, zz5] <;> rfl) rfl ?_
              have hbb := HBB.out
              exact ⟨none, 0, .inr ⟨by rw [← hbb]; simp, rfl⟩, HE.out.1, HE.out.2⟩
            | true =>
              have dd0 := hd7.cell (i := 0) rfl
              have dd1 := hd7.cell (i := 1) rfl
              have dd2 := hd7.cell (i := 2) rfl
              have dd3 := hd7.cell (i := 3) rfl
              have dd4 := hd7.cell (i := 4) rfl
              have dd5 := hd7.cell (i := 5) rfl
              have hrw := hr7
              obtain ⟨w8, hw8⟩ : ∃ x, ((((((W.setCell ⟨(w.heap.size + 1), 0, none⟩ (.int .u32 x0)).setCell ⟨(w.heap.size + 1), 1, none⟩ (.int .u32 x1)).setCell ⟨(w.heap.size + 1), 2, none⟩ (.int .u16 x2)).setCell ⟨(w.heap.size + 1), 3, none⟩ (.int .u16 x3)).setCell ⟨(w.heap.size + 1), 4, none⟩ (.int .u32 x4)).setCell ⟨(w.heap.size + 1), 5, none⟩ (.slice none 0 0)) = x := ⟨_, rfl⟩
              have hA4 : Arr _ (w.heap.size + 1) 43 [.int .u32 x0, .int .u32 x1, .int .u16 x2, .int .u16 x3, .int .u32 x4, .slice none 0 0] := ((((((hz7.set 0 (.int .u32 x0)).set 1 (.int .u32 x1)).set 2 (.int .u16 x2)).set 3 (.int .u16 x3)).set 4 (.int .u32 x4)).set 5 (.slice none 0 0))
              have hB4 := ((((((hB7.setCell (p := ⟨(w.heap.size + 1), 0, none⟩) (by simp) (.int .u32 x0)).setCell (p := ⟨(w.heap.size + 1), 1, none⟩) (by simp) (.int .u32 x1)).setCell (p := ⟨(w.heap.size + 1), 2, none⟩) (by simp) (.int .u16 x2)).setCell (p := ⟨(w.heap.size + 1), 3, none⟩) (by simp) (.int .u16 x3)).setCell (p := ⟨(w.heap.size + 1), 4, none⟩) (by simp) (.int .u32 x4)).setCell (p := ⟨(w.heap.size + 1), 5, none⟩) (by simp) (.slice none 0 0))
              have hrw4 := ((((((hrw.setAt hz7 (by decide) 0 (.int .u32 x0)).setAt (hz7.set 0 (.int .u32 x0)) (by decide) 1 (.int .u32 x1)).setAt ((hz7.set 0 (.int .u32 x0)).set 1 (.int .u32 x1)) (by decide) 2 (.int .u16 x2)).setAt (((hz7.set 0 (.int .u32 x0)).set 1 (.int .u32 x1)).set 2 (.int .u16 x2)) (by decide) 3 (.int .u16 x3)).setAt ((((hz7.set 0 (.int .u32 x0)).set 1 (.int .u32 x1)).set 2 (.int .u16 x2)).set 3 (.int .u16 x3)) (by decide) 4 (.int .u32 x4)).setAt (((((hz7.set 0 (.int .u32 x0)).set 1 (.int .u32 x1)).set 2 (.int .u16 x2)).set 3 (.int .u16 x3)).set 4 (.int .u32 x4)) (by decide) 5 (.slice none 0 0))
              rw [hw8] at hA4 hB4 hrw4
              have fs0 := hz7.free 0
              have fs1 := hz7.free 1
              have fs2 := hz7.free 2
              have fs3 := hz7.free 3
              have fs4 := hz7.free 4
              have fs5 := hz7.free 5
              have yy0 := hz7.cell (i := 0) rfl
              have yy1 := hz7.cell (i := 1) rfl
              have yy2 := hz7.cell (i := 2) rfl
              have yy3 := hz7.cell (i := 3) rfl
              have yy4 := hz7.cell (i := 4) rfl
              have yy5 := hz7.cell (i := 5) rfl
              have zz0 := hA4.cell (i := 0) rfl
              have zz1 := hA4.cell (i := 1) rfl
              have zz2 := hA4.cell (i := 2) rfl
              have zz3 := hA4.cell (i := 3) rfl
              have zz4 := hA4.cell (i := 4) rfl
              have zz5 := hA4.cell (i := 5) rfl
              have HE := Lib.hid (And.intro hB4 hrw4)
              clear hA4 hB4 hrw hrw4 hz7 hB7 hr7 hd7
              go_wp2
              refine bodyPost_ret (by simp [results, Try.results25, go_sem, zz0, zz1, zz2, zz3, zz4, zz5] <;> rfl) rfl ?_
              have hbb := HBB.out
              exact ⟨none, 0, .inl ⟨by rw [← hbb]; simp [initOk, NH0Z.out, NH2Z.out, NH3Z.out], rfl⟩, HE.out.1, HE.out.2⟩

set_option maxRecDepth 100000 in
set_option maxHeartbeats 1600000 in
theorem rgetInit_oth (k f : Int) (p : Option Addr) (n c : Nat) (zs : List Int) (w : World) (hr : Reads w p n zs) (hz : Byt zs) (hc : n ≤ c) (hn : n ≤ 281474976) (hk1 : k ≠ 1) (hk2 : k ≠ 2) :
    Calls Try.prog 25 #[.agg #[.int .u8 k, .int .u8 f, .slice p n c]] w fun e w' => e = .returned (.tuple #[.agg #[.int .u32 0, .int .u32 0, .int .u16 0, .int .u16 0, .int .u32 0, .slice none 0 0], .int .i64 7]) ∧ Below w.heap.size w w' := by
  obtain ⟨wa, hwa⟩ : ∃ wa, w.alloc (.cells #[.int .u8 k, .int .u8 f, .slice p n c] 28) = wa := ⟨_, rfl⟩
  have hba : Below w.heap.size w wa := by rw [← hwa]; exact chunkBelow w k f _
  have hsa : wa.heap.size = w.heap.size + 1 := by rw [← hwa]; simp
  have hca : Arr wa w.heap.size 28 [.int .u8 k, .int .u8 f, .slice p n c] := by rw [← hwa]; exact chunkBox w k f _
  obtain ⟨wE, hwE⟩ : ∃ wE, wa.alloc (.cells #[.int .u32 0, .int .u32 0, .int .u16 0, .int .u16 0, .int .u32 0, .slice none 0 0] 43) = wE := ⟨_, rfl⟩
  have hbE0 : Below wa.heap.size wa wE := by rw [← hwE]; exact (Below.refl _ _).alloc (Nat.le_refl _) _
  have hsE : wE.heap.size = w.heap.size + 2 := by rw [← hwE]; simp; omega
  have hzE : Arr wE (w.heap.size + 1) 43 [.int .u32 0, .int .u32 0, .int .u16 0, .int .u16 0, .int .u32 0, .slice none 0 0] := by rw [← hwE, ← hsa]; exact arr_new _ _ _
  have hcE := hca.keep hbE0
  have hbE := hba.trans (hbE0.mono hba.size)
  have hr2 := hr.below hbE
  have e1 : (k != 1) = true := by simpa using hk1
  have e2 : (k != 2) = true := by simpa using hk2
  clear hk1 hk2
  have cc0 := hcE.cell (i := 0) rfl
  have cc1 := hcE.cell (i := 1) rfl
  have cc2 := hcE.cell (i := 2) rfl
  have fs0 := hzE.free 0
  have fs1 := hzE.free 1
  have fs2 := hzE.free 2
  have fs3 := hzE.free 3
  have fs4 := hzE.free 4
  have fs5 := hzE.free 5
  have yy0 := hzE.cell (i := 0) rfl
  have yy1 := hzE.cell (i := 1) rfl
  have yy2 := hzE.cell (i := 2) rfl
  have yy3 := hzE.cell (i := 3) rfl
  have yy4 := hzE.cell (i := 4) rfl
  have yy5 := hzE.cell (i := 5) rfl
  obtain ⟨w8, hw8⟩ : ∃ x, ((((((wE.setCell ⟨(w.heap.size + 1), 0, none⟩ (.int .u32 0)).setCell ⟨(w.heap.size + 1), 1, none⟩ (.int .u32 0)).setCell ⟨(w.heap.size + 1), 2, none⟩ (.int .u16 0)).setCell ⟨(w.heap.size + 1), 3, none⟩ (.int .u16 0)).setCell ⟨(w.heap.size + 1), 4, none⟩ (.int .u32 0)).setCell ⟨(w.heap.size + 1), 5, none⟩ (.slice none 0 0)) = x := ⟨_, rfl⟩
  have hA4 : Arr _ (w.heap.size + 1) 43 [.int .u32 0, .int .u32 0, .int .u16 0, .int .u16 0, .int .u32 0, .slice none 0 0] := ((((((hzE.set 0 (.int .u32 0)).set 1 (.int .u32 0)).set 2 (.int .u16 0)).set 3 (.int .u16 0)).set 4 (.int .u32 0)).set 5 (.slice none 0 0))
  have hB4 := ((((((hbE.setCell (p := ⟨(w.heap.size + 1), 0, none⟩) (by simp) (.int .u32 0)).setCell (p := ⟨(w.heap.size + 1), 1, none⟩) (by simp) (.int .u32 0)).setCell (p := ⟨(w.heap.size + 1), 2, none⟩) (by simp) (.int .u16 0)).setCell (p := ⟨(w.heap.size + 1), 3, none⟩) (by simp) (.int .u16 0)).setCell (p := ⟨(w.heap.size + 1), 4, none⟩) (by simp) (.int .u32 0)).setCell (p := ⟨(w.heap.size + 1), 5, none⟩) (by simp) (.slice none 0 0))
  rw [hw8] at hA4 hB4
  have zz0 := hA4.cell (i := 0) rfl
  have zz1 := hA4.cell (i := 1) rfl
  have zz2 := hA4.cell (i := 2) rfl
  have zz3 := hA4.cell (i := 3) rfl
  have zz4 := hA4.cell (i := 4) rfl
  have zz5 := hA4.cell (i := 5) rfl
  have HE := Lib.hid hB4
  clear hba hca hbE0 hzE hcE hbE hr hr2 hA4 hB4
  go_enter Try.func25, Try.ntmps25
  go_wp2
  exact bodyPost_ret (by simp [results, Try.results25, go_sem, zz0, zz1, zz2, zz3, zz4, zz5] <;> rfl) rfl ⟨rfl, HE.out⟩

set_option maxRecDepth 100000 in
set_option maxHeartbeats 1600000 in
theorem rgetInit_few1 (f : Int) (p : Option Addr) (n c : Nat) (zs : List Int) (w : World) (hr : Reads w p n zs) (hz : Byt zs) (hc : n ≤ c) (hn : n ≤ 281474976) (hm : n < 16) :
    Calls Try.prog 25 #[.agg #[.int .u8 1, .int .u8 f, .slice p n c]] w fun e w' => e = .returned (.tuple #[.agg #[.int .u32 0, .int .u32 0, .int .u16 0, .int .u16 0, .int .u32 0, .slice none 0 0], .int .i64 7]) ∧ Below w.heap.size w w' := by
  obtain ⟨wa, hwa⟩ : ∃ wa, w.alloc (.cells #[.int .u8 1, .int .u8 f, .slice p n c] 28) = wa := ⟨_, rfl⟩
  have hba : Below w.heap.size w wa := by rw [← hwa]; exact chunkBelow w 1 f _
  have hsa : wa.heap.size = w.heap.size + 1 := by rw [← hwa]; simp
  have hca : Arr wa w.heap.size 28 [.int .u8 1, .int .u8 f, .slice p n c] := by rw [← hwa]; exact chunkBox w 1 f _
  obtain ⟨wE, hwE⟩ : ∃ wE, wa.alloc (.cells #[.int .u32 0, .int .u32 0, .int .u16 0, .int .u16 0, .int .u32 0, .slice none 0 0] 43) = wE := ⟨_, rfl⟩
  have hbE0 : Below wa.heap.size wa wE := by rw [← hwE]; exact (Below.refl _ _).alloc (Nat.le_refl _) _
  have hsE : wE.heap.size = w.heap.size + 2 := by rw [← hwE]; simp; omega
  have hzE : Arr wE (w.heap.size + 1) 43 [.int .u32 0, .int .u32 0, .int .u16 0, .int .u16 0, .int .u32 0, .slice none 0 0] := by rw [← hwE, ← hsa]; exact arr_new _ _ _
  have hcE := hca.keep hbE0
  have hbE := hba.trans (hbE0.mono hba.size)
  have hr2 := hr.below hbE
  have hmi : (n : Int) < 16 := by omega
  clear hm
  have cc0 := hcE.cell (i := 0) rfl
  have cc1 := hcE.cell (i := 1) rfl
  have cc2 := hcE.cell (i := 2) rfl
  have fs0 := hzE.free 0
  have fs1 := hzE.free 1
  have fs2 := hzE.free 2
  have fs3 := hzE.free 3
  have fs4 := hzE.free 4
  have fs5 := hzE.free 5
  have yy0 := hzE.cell (i := 0) rfl
  have yy1 := hzE.cell (i := 1) rfl
  have yy2 := hzE.cell (i := 2) rfl
  have yy3 := hzE.cell (i := 3) rfl
  have yy4 := hzE.cell (i := 4) rfl
  have yy5 := hzE.cell (i := 5) rfl
  obtain ⟨w8, hw8⟩ : ∃ x, ((((((wE.setCell ⟨(w.heap.size + 1), 0, none⟩ (.int .u32 0)).setCell ⟨(w.heap.size + 1), 1, none⟩ (.int .u32 0)).setCell ⟨(w.heap.size + 1), 2, none⟩ (.int .u16 0)).setCell ⟨(w.heap.size + 1), 3, none⟩ (.int .u16 0)).setCell ⟨(w.heap.size + 1), 4, none⟩ (.int .u32 0)).setCell ⟨(w.heap.size + 1), 5, none⟩ (.slice none 0 0)) = x := ⟨_, rfl⟩
  have hA4 : Arr _ (w.heap.size + 1) 43 [.int .u32 0, .int .u32 0, .int .u16 0, .int .u16 0, .int .u32 0, .slice none 0 0] := ((((((hzE.set 0 (.int .u32 0)).set 1 (.int .u32 0)).set 2 (.int .u16 0)).set 3 (.int .u16 0)).set 4 (.int .u32 0)).set 5 (.slice none 0 0))
  have hB4 := ((((((hbE.setCell (p := ⟨(w.heap.size + 1), 0, none⟩) (by simp) (.int .u32 0)).setCell (p := ⟨(w.heap.size + 1), 1, none⟩) (by simp) (.int .u32 0)).setCell (p := ⟨(w.heap.size + 1), 2, none⟩) (by simp) (.int .u16 0)).setCell (p := ⟨(w.heap.size + 1), 3, none⟩) (by simp) (.int .u16 0)).setCell (p := ⟨(w.heap.size + 1), 4, none⟩) (by simp) (.int .u32 0)).setCell (p := ⟨(w.heap.size + 1), 5, none⟩) (by simp) (.slice none 0 0))
  rw [hw8] at hA4 hB4
  have zz0 := hA4.cell (i := 0) rfl
  have zz1 := hA4.cell (i := 1) rfl
  have zz2 := hA4.cell (i := 2) rfl
  have zz3 := hA4.cell (i := 3) rfl
  have zz4 := hA4.cell (i := 4) rfl
  have zz5 := hA4.cell (i := 5) rfl
  have HE := Lib.hid hB4
  clear hba hca hbE0 hzE hcE hbE hr hr2 hA4 hB4
  go_enter Try.func25, Try.ntmps25
  go_wp2
  exact bodyPost_ret (by simp [results, Try.results25, go_sem, zz0, zz1, zz2, zz3, zz4, zz5] <;> rfl) rfl ⟨rfl, HE.out⟩

set_option maxRecDepth 100000 in
set_option maxHeartbeats 1600000 in
theorem rgetInit_few2 (f : Int) (p : Option Addr) (n c : Nat) (zs : List Int) (w : World) (hr : Reads w p n zs) (hz : Byt zs) (hc : n ≤ c) (hn : n ≤ 281474976) (hm : n < 16) :
    Calls Try.prog 25 #[.agg #[.int .u8 2, .int .u8 f, .slice p n c]] w fun e w' => e = .returned (.tuple #[.agg #[.int .u32 0, .int .u32 0, .int .u16 0, .int .u16 0, .int .u32 0, .slice none 0 0], .int .i64 7]) ∧ Below w.heap.size w w' := by
  obtain ⟨wa, hwa⟩ : ∃ wa, w.alloc (.cells #[.int .u8 2, .int .u8 f, .slice p n c] 28) = wa := ⟨_, rfl⟩
  have hba : Below w.heap.size w wa := by rw [← hwa]; exact chunkBelow w 2 f _
  have hsa : wa.heap.size = w.heap.size + 1 := by rw [← hwa]; simp
  have hca : Arr wa w.heap.size 28 [.int .u8 2, .int .u8 f, .slice p n c] := by rw [← hwa]; exact chunkBox w 2 f _
  obtain ⟨wE, hwE⟩ : ∃ wE, wa.alloc (.cells #[.int .u32 0, .int .u32 0, .int .u16 0, .int .u16 0, .int .u32 0, .slice none 0 0] 43) = wE := ⟨_, rfl⟩
  have hbE0 : Below wa.heap.size wa wE := by rw [← hwE]; exact (Below.refl _ _).alloc (Nat.le_refl _) _
  have hsE : wE.heap.size = w.heap.size + 2 := by rw [← hwE]; simp; omega
  have hzE : Arr wE (w.heap.size + 1) 43 [.int .u32 0, .int .u32 0, .int .u16 0, .int .u16 0, .int .u32 0, .slice none 0 0] := by rw [← hwE, ← hsa]; exact arr_new _ _ _
  have hcE := hca.keep hbE0
  have hbE := hba.trans (hbE0.mono hba.size)
  have hr2 := hr.below hbE
  have hmi : (n : Int) < 16 := by omega
  clear hm
  have cc0 := hcE.cell (i := 0) rfl
  have cc1 := hcE.cell (i := 1) rfl
  have cc2 := hcE.cell (i := 2) rfl
  have fs0 := hzE.free 0
  have fs1 := hzE.free 1
  have fs2 := hzE.free 2
  have fs3 := hzE.free 3
  have fs4 := hzE.free 4
  have fs5 := hzE.free 5
  have yy0 := hzE.cell (i := 0) rfl
  have yy1 := hzE.cell (i := 1) rfl
  have yy2 := hzE.cell (i := 2) rfl
  have yy3 := hzE.cell (i := 3) rfl
  have yy4 := hzE.cell (i := 4) rfl
  have yy5 := hzE.cell (i := 5) rfl
  obtain ⟨w8, hw8⟩ : ∃ x, ((((((wE.setCell ⟨(w.heap.size + 1), 0, none⟩ (.int .u32 0)).setCell ⟨(w.heap.size + 1), 1, none⟩ (.int .u32 0)).setCell ⟨(w.heap.size + 1), 2, none⟩ (.int .u16 0)).setCell ⟨(w.heap.size + 1), 3, none⟩ (.int .u16 0)).setCell ⟨(w.heap.size + 1), 4, none⟩ (.int .u32 0)).setCell ⟨(w.heap.size + 1), 5, none⟩ (.slice none 0 0)) = x := ⟨_, rfl⟩
  have hA4 : Arr _ (w.heap.size + 1) 43 [.int .u32 0, .int .u32 0, .int .u16 0, .int .u16 0, .int .u32 0, .slice none 0 0] := ((((((hzE.set 0 (.int .u32 0)).set 1 (.int .u32 0)).set 2 (.int .u16 0)).set 3 (.int .u16 0)).set 4 (.int .u32 0)).set 5 (.slice none 0 0))
  have hB4 := ((((((hbE.setCell (p := ⟨(w.heap.size + 1), 0, none⟩) (by simp) (.int .u32 0)).setCell (p := ⟨(w.heap.size + 1), 1, none⟩) (by simp) (.int .u32 0)).setCell (p := ⟨(w.heap.size + 1), 2, none⟩) (by simp) (.int .u16 0)).setCell (p := ⟨(w.heap.size + 1), 3, none⟩) (by simp) (.int .u16 0)).setCell (p := ⟨(w.heap.size + 1), 4, none⟩) (by simp) (.int .u32 0)).setCell (p := ⟨(w.heap.size + 1), 5, none⟩) (by simp) (.slice none 0 0))
  rw [hw8] at hA4 hB4
  have zz0 := hA4.cell (i := 0) rfl
  have zz1 := hA4.cell (i := 1) rfl
  have zz2 := hA4.cell (i := 2) rfl
  have zz3 := hA4.cell (i := 3) rfl
  have zz4 := hA4.cell (i := 4) rfl
  have zz5 := hA4.cell (i := 5) rfl
  have HE := Lib.hid hB4
  clear hba hca hbE0 hzE hcE hbE hr hr2 hA4 hB4
  go_enter Try.func25, Try.ntmps25
  go_wp2
  exact bodyPost_ret (by simp [results, Try.results25, go_sem, zz0, zz1, zz2, zz3, zz4, zz5] <;> rfl) rfl ⟨rfl, HE.out⟩

end Go.Proofs.Ytlihcckgnnnekaa
