/-
  Stage 9: GetData, the program's and the reference's. Written by gengetd.py.
-/
import Derived.Test.YtlihcckgnnnekaaBdSet
import Derived.Test.YtlihcckgnnnekaaCutRun
namespace Go.Proofs.Ytlihcckgnnnekaa
open Go.RowKit
set_option linter.unusedVariables false
set_option linter.unusedSimpArgs false
set_option linter.unnecessarySimpa false

/-- What the operations of the drawn region leave behind. -/
def GDat (w wE : World) (k f x0 x1 x2 : Int) (u fi l : Bool) (p : Option Addr) (n c : Nat) (i : Nat) (v : Value) (W : World) : Prop := match i with | 0 => v = .pointer (some ⟨w.heap.size, 2, none⟩) | 1 => v = .slice p n c | 2 => v = .int .u64 x0 | 3 => v = .int .u32 x0 | 4 => v = .pointer (some ⟨w.heap.size, 2, none⟩) | 5 => v = .slice p n c | 6 => v = .int .u64 x1 | 7 => v = .int .u16 x1 | 8 => v = .pointer (some ⟨w.heap.size, 2, none⟩) | 9 => v = .slice p n c | 10 => v = .int .u64 x2 | 11 => v = .int .u16 x2 | 12 => v = .pointer (some ⟨w.heap.size, 1, none⟩) | 13 => v = .int .u8 f | 14 => v = .int .u8 (bits .and .u8 f 4) | 15 => v = .bool u | 16 => v = .pointer (some ⟨w.heap.size, 1, none⟩) | 17 => v = .int .u8 f | 18 => v = .int .u8 (bits .and .u8 f 2) | 19 => v = .bool fi | 20 => v = .pointer (some ⟨w.heap.size, 1, none⟩) | 21 => v = .int .u8 f | 22 => v = .int .u8 (bits .and .u8 f 1) | 23 => v = .bool l | 24 => v = .agg #[.int .u32 x0, .int .u16 x1, .int .u16 x2, .bool u, .bool fi, .bool l, .slice none 0 0] | 25 => ∃ gn, v = .pointer (some ⟨gn, 0, none⟩) ∧ wE.heap.size ≤ gn ∧ Arr W gn 26 [.int .u32 0, .int .u16 0, .int .u16 0, .bool false, .bool false, .bool false, .slice none 0 0] | _ => True
theorem GDat_mono {w wE : World} {k f x0 x1 x2 : Int} {u fi l : Bool} {p : Option Addr} {n c : Nat} {W W' : World} (hb : Below W.heap.size W W') (j : Nat) (x : Value) (h : GDat w wE k f x0 x1 x2 u fi l p n c j x W) : GDat w wE k f x0 x1 x2 u fi l p n c j x W' := by
  unfold GDat at h ⊢
  split at h <;> try exact h
  · obtain ⟨gn, e0, h0_0, h0_1⟩ := h
    exact ⟨gn, e0, h0_0, h0_1.keep hb⟩

set_option maxRecDepth 100000 in
set_option maxHeartbeats 1600000 in
theorem pgetData_pos (k f : Int) (p : Option Addr) (n c : Nat) (zs : List Int) (w : World) (hr : Reads w p n zs) (hz : Byt zs) (hc : n ≤ c) (hn : n ≤ 281474976) (x0 : Int) (hxx0 : natAt zs 0 4 = x0) (x1 : Int) (hxx1 : natAt zs 4 2 = x1) (x2 : Int) (hxx2 : natAt zs 6 2 = x2) (u : Bool) (hu : (bits .and .u8 f 4 != 0) = u) (fi : Bool) (hfi : (bits .and .u8 f 2 != 0) = fi) (l : Bool) (hl : (bits .and .u8 f 1 != 0) = l) (hm : 0 < n - 12) :
    Calls Try.prog 16 #[.agg #[.int .u8 k, .int .u8 f, .slice p n c]] w fun e w' => ∃ a1 c1, Chose (eqC k f zs 0 (dflags u fi l) (dataB x0 x1 x2 (zs.drop 12))) (.agg #[.int .u32 x0, .int .u16 x1, .int .u16 x2, .bool u, .bool fi, .bool l, .slice a1 (n - 12) c1]) (.agg #[.int .u32 0, .int .u16 0, .int .u16 0, .bool false, .bool false, .bool false, .slice none 0 0]) e ∧ Below w.heap.size w w' ∧ Row8 w.heap.size w' a1 (n - 12) c1 (zs.drop 12) := by
  have HNx0 := Lib.hid (show ∀ W, Reads W p n zs → Calls Try.prog 50 #[.slice p n c, .int .i64 0, .int .i64 4] W fun e w' => e = .returned (.int .u64 x0) ∧ W = w' from fun W h => hxx0 ▸ num_any p n c 0 4 zs W h hz (by omega) (by omega) rfl)
  obtain ⟨lox0, hix0⟩ : 0 ≤ x0 ∧ x0 < 4294967296 := hxx0 ▸ natAt4 hz 0
  have HNx1 := Lib.hid (show ∀ W, Reads W p n zs → Calls Try.prog 50 #[.slice p n c, .int .i64 4, .int .i64 2] W fun e w' => e = .returned (.int .u64 x1) ∧ W = w' from fun W h => hxx1 ▸ num_any p n c 4 2 zs W h hz (by omega) (by omega) rfl)
  obtain ⟨lox1, hix1⟩ : 0 ≤ x1 ∧ x1 < 65536 := hxx1 ▸ natAt2 hz 4
  have HNx2 := Lib.hid (show ∀ W, Reads W p n zs → Calls Try.prog 50 #[.slice p n c, .int .i64 6, .int .i64 2] W fun e w' => e = .returned (.int .u64 x2) ∧ W = w' from fun W h => hxx2 ▸ num_any p n c 6 2 zs W h hz (by omega) (by omega) rfl)
  obtain ⟨lox2, hix2⟩ : 0 ≤ x2 ∧ x2 < 65536 := hxx2 ▸ natAt2 hz 6
  have Hu := Lib.hid hu
  have Hfi := Lib.hid hfi
  have Hl := Lib.hid hl
  clear hu hfi hl
  obtain ⟨wa, hwa⟩ : ∃ wa, w.alloc (.cells #[.int .u8 k, .int .u8 f, .slice p n c] 28) = wa := ⟨_, rfl⟩
  have hba : Below w.heap.size w wa := by rw [← hwa]; exact chunkBelow w k f _
  have hsa : wa.heap.size = w.heap.size + 1 := by rw [← hwa]; simp
  have hca : Arr wa w.heap.size 28 [.int .u8 k, .int .u8 f, .slice p n c] := by rw [← hwa]; exact chunkBox w k f _
  obtain ⟨wE, hwE⟩ : ∃ wE, wa.alloc (.cells #[.int .u32 0, .int .u16 0, .int .u16 0, .bool false, .bool false, .bool false, .slice none 0 0] 26) = wE := ⟨_, rfl⟩
  have hbE0 : Below wa.heap.size wa wE := by rw [← hwE]; exact (Below.refl _ _).alloc (Nat.le_refl _) _
  have hsE : wE.heap.size = w.heap.size + 2 := by rw [← hwE]; simp; omega
  have hzE : Arr wE (w.heap.size + 1) 26 [.int .u32 0, .int .u16 0, .int .u16 0, .bool false, .bool false, .bool false, .slice none 0 0] := by rw [← hwE, ← hsa]; exact arr_new _ _ _
  have hcE := hca.keep hbE0
  have hbE := hba.trans (hbE0.mono hba.size)
  have hr2 := hr.below hbE
  have HRW := Lib.hid (show ∀ W, Below wE.heap.size wE W → Reads W p n zs from fun W h => hr2.below h)
  have HC := Lib.hid hcE
  have HZ := Lib.hid hzE
  have HBE := Lib.hid (And.intro hbE hsE)
  have hg13 : (0 : Int) < ((n - 12 : Nat) : Int) := by omega
  clear hba hca hbE0 hzE hcE hbE hr hr2 hxx0 hxx1 hxx2
  go_enter Try.func16, Try.ntmps16
  go_wp2_with fail
  refine wp_region_any (by kernel_rfl) ?_
  refine Vals.wpAny_goodLast (GDat w wE k f x0 x1 x2 u fi l p n c) (fun W => Below wE.heap.size wE W) [some 5, some 6, some 7, some 8, some 9, some 10, some 11, some 12, some 13, some 14, some 15, some 16, some 17, some 18, some 19, some 20, some 21, some 22, some 23, some 24, some 25, some 26, some 27, some 28, some 29, some 4, none] 26 50 _ _ rfl (by kernel_rfl) (by kernel_rfl) (by kernel_rfl) (by decide) rfl ?step ?fin (Below.refl _ _).drew
  case step =>
    intro i o d ho hd hiN a W hJ hdf hdep hfr K hK
    match i, ho, hd with
    | 0, ho, hd =>
      have ho' := ho
      simp only [List.getElem?_toArray, List.getElem?_cons_zero, Option.some.injEq] at ho hd
      subst ho hd
      have r1 : a.eval (.tmp 1) = .pointer (some ⟨w.heap.size, 0, none⟩) := hfr 1 (by decide)
      rw [Vals.eval_tmp] at r1
      refine Vals.wpOp_run ho' rfl ?_
      clear hdep hfr ho' hdf
      go_simp
      exact hK _ _ (fun _ _ h => h) hJ (fun _ => rfl)
    | 1, ho, hd =>
      have ho' := ho
      simp only [List.getElem?_toArray, List.getElem?_cons_zero, List.getElem?_cons_succ, Option.some.injEq] at ho hd
      subst ho hd
      have r5 : a.eval (.tmp 5) = .pointer (some ⟨w.heap.size, 2, none⟩) := hdep ⟨0, .data⟩ (by simp) rfl 5 rfl
      rw [Vals.eval_tmp] at r5
      have c0 := (HC.out.keep hJ).cell (i := 2) rfl
      refine Vals.wpOp_run ho' rfl ?_
      clear hdep hfr ho' hdf
      go_simp
      exact hK _ _ (fun _ _ h => h) hJ (fun _ => rfl)
    | 2, ho, hd =>
      have ho' := ho
      simp only [List.getElem?_toArray, List.getElem?_cons_zero, List.getElem?_cons_succ, Option.some.injEq] at ho hd
      subst ho hd
      have r6 : a.eval (.tmp 6) = .slice p n c := hdep ⟨1, .data⟩ (by simp) rfl 6 rfl
      rw [Vals.eval_tmp] at r6
      refine Vals.wpOp_run ho' rfl ?_
      clear hdep hfr ho' hdf
      go_simp
      refine (HNx0.out W (HRW.out W hJ)).mono ?_
      rintro e w' ⟨rfl, rfl⟩
      exact hK _ _ (fun _ _ h => h) hJ (fun _ => rfl)
    | 3, ho, hd =>
      have ho' := ho
      simp only [List.getElem?_toArray, List.getElem?_cons_zero, List.getElem?_cons_succ, Option.some.injEq] at ho hd
      subst ho hd
      have r7 : a.eval (.tmp 7) = .int .u64 x0 := hdep ⟨2, .data⟩ (by simp) rfl 7 rfl
      rw [Vals.eval_tmp] at r7
      refine Vals.wpOp_run ho' rfl ?_
      clear hdep hfr ho' hdf
      go_simp
      exact hK _ _ (fun _ _ h => h) hJ (fun _ => (by first | rfl | exact congrArg (Value.int _) (Int.emod_eq_of_lt (by assumption) (by assumption))))
    | 4, ho, hd =>
      have ho' := ho
      simp only [List.getElem?_toArray, List.getElem?_cons_zero, List.getElem?_cons_succ, Option.some.injEq] at ho hd
      subst ho hd
      have r1 : a.eval (.tmp 1) = .pointer (some ⟨w.heap.size, 0, none⟩) := hfr 1 (by decide)
      rw [Vals.eval_tmp] at r1
      refine Vals.wpOp_run ho' rfl ?_
      clear hdep hfr ho' hdf
      go_simp
      exact hK _ _ (fun _ _ h => h) hJ (fun _ => rfl)
    | 5, ho, hd =>
      have ho' := ho
      simp only [List.getElem?_toArray, List.getElem?_cons_zero, List.getElem?_cons_succ, Option.some.injEq] at ho hd
      subst ho hd
      have r9 : a.eval (.tmp 9) = .pointer (some ⟨w.heap.size, 2, none⟩) := hdep ⟨4, .data⟩ (by simp) rfl 9 rfl
      rw [Vals.eval_tmp] at r9
      have c0 := (HC.out.keep hJ).cell (i := 2) rfl
      refine Vals.wpOp_run ho' rfl ?_
      clear hdep hfr ho' hdf
      go_simp
      exact hK _ _ (fun _ _ h => h) hJ (fun _ => rfl)
    | 6, ho, hd =>
      have ho' := ho
      simp only [List.getElem?_toArray, List.getElem?_cons_zero, List.getElem?_cons_succ, Option.some.injEq] at ho hd
      subst ho hd
      have r10 : a.eval (.tmp 10) = .slice p n c := hdep ⟨5, .data⟩ (by simp) rfl 10 rfl
      rw [Vals.eval_tmp] at r10
      refine Vals.wpOp_run ho' rfl ?_
      clear hdep hfr ho' hdf
      go_simp
      refine (HNx1.out W (HRW.out W hJ)).mono ?_
      rintro e w' ⟨rfl, rfl⟩
      exact hK _ _ (fun _ _ h => h) hJ (fun _ => rfl)
    | 7, ho, hd =>
      have ho' := ho
      simp only [List.getElem?_toArray, List.getElem?_cons_zero, List.getElem?_cons_succ, Option.some.injEq] at ho hd
      subst ho hd
      have r11 : a.eval (.tmp 11) = .int .u64 x1 := hdep ⟨6, .data⟩ (by simp) rfl 11 rfl
      rw [Vals.eval_tmp] at r11
      refine Vals.wpOp_run ho' rfl ?_
      clear hdep hfr ho' hdf
      go_simp
      exact hK _ _ (fun _ _ h => h) hJ (fun _ => (by first | rfl | exact congrArg (Value.int _) (Int.emod_eq_of_lt (by assumption) (by assumption))))
    | 8, ho, hd =>
      have ho' := ho
      simp only [List.getElem?_toArray, List.getElem?_cons_zero, List.getElem?_cons_succ, Option.some.injEq] at ho hd
      subst ho hd
      have r1 : a.eval (.tmp 1) = .pointer (some ⟨w.heap.size, 0, none⟩) := hfr 1 (by decide)
      rw [Vals.eval_tmp] at r1
      refine Vals.wpOp_run ho' rfl ?_
      clear hdep hfr ho' hdf
      go_simp
      exact hK _ _ (fun _ _ h => h) hJ (fun _ => rfl)
    | 9, ho, hd =>
      have ho' := ho
      simp only [List.getElem?_toArray, List.getElem?_cons_zero, List.getElem?_cons_succ, Option.some.injEq] at ho hd
      subst ho hd
      have r13 : a.eval (.tmp 13) = .pointer (some ⟨w.heap.size, 2, none⟩) := hdep ⟨8, .data⟩ (by simp) rfl 13 rfl
      rw [Vals.eval_tmp] at r13
      have c0 := (HC.out.keep hJ).cell (i := 2) rfl
      refine Vals.wpOp_run ho' rfl ?_
      clear hdep hfr ho' hdf
      go_simp
      exact hK _ _ (fun _ _ h => h) hJ (fun _ => rfl)
    | 10, ho, hd =>
      have ho' := ho
      simp only [List.getElem?_toArray, List.getElem?_cons_zero, List.getElem?_cons_succ, Option.some.injEq] at ho hd
      subst ho hd
      have r14 : a.eval (.tmp 14) = .slice p n c := hdep ⟨9, .data⟩ (by simp) rfl 14 rfl
      rw [Vals.eval_tmp] at r14
      refine Vals.wpOp_run ho' rfl ?_
      clear hdep hfr ho' hdf
      go_simp
      refine (HNx2.out W (HRW.out W hJ)).mono ?_
      rintro e w' ⟨rfl, rfl⟩
      exact hK _ _ (fun _ _ h => h) hJ (fun _ => rfl)
    | 11, ho, hd =>
      have ho' := ho
      simp only [List.getElem?_toArray, List.getElem?_cons_zero, List.getElem?_cons_succ, Option.some.injEq] at ho hd
      subst ho hd
      have r15 : a.eval (.tmp 15) = .int .u64 x2 := hdep ⟨10, .data⟩ (by simp) rfl 15 rfl
      rw [Vals.eval_tmp] at r15
      refine Vals.wpOp_run ho' rfl ?_
      clear hdep hfr ho' hdf
      go_simp
      exact hK _ _ (fun _ _ h => h) hJ (fun _ => (by first | rfl | exact congrArg (Value.int _) (Int.emod_eq_of_lt (by assumption) (by assumption))))
    | 12, ho, hd =>
      have ho' := ho
      simp only [List.getElem?_toArray, List.getElem?_cons_zero, List.getElem?_cons_succ, Option.some.injEq] at ho hd
      subst ho hd
      have r1 : a.eval (.tmp 1) = .pointer (some ⟨w.heap.size, 0, none⟩) := hfr 1 (by decide)
      rw [Vals.eval_tmp] at r1
      refine Vals.wpOp_run ho' rfl ?_
      clear hdep hfr ho' hdf
      go_simp
      exact hK _ _ (fun _ _ h => h) hJ (fun _ => rfl)
    | 13, ho, hd =>
      have ho' := ho
      simp only [List.getElem?_toArray, List.getElem?_cons_zero, List.getElem?_cons_succ, Option.some.injEq] at ho hd
      subst ho hd
      have r17 : a.eval (.tmp 17) = .pointer (some ⟨w.heap.size, 1, none⟩) := hdep ⟨12, .data⟩ (by simp) rfl 17 rfl
      rw [Vals.eval_tmp] at r17
      have c0 := (HC.out.keep hJ).cell (i := 1) rfl
      refine Vals.wpOp_run ho' rfl ?_
      clear hdep hfr ho' hdf
      go_simp
      exact hK _ _ (fun _ _ h => h) hJ (fun _ => rfl)
    | 14, ho, hd =>
      have ho' := ho
      simp only [List.getElem?_toArray, List.getElem?_cons_zero, List.getElem?_cons_succ, Option.some.injEq] at ho hd
      subst ho hd
      have r18 : a.eval (.tmp 18) = .int .u8 f := hdep ⟨13, .data⟩ (by simp) rfl 18 rfl
      rw [Vals.eval_tmp] at r18
      refine Vals.wpOp_run ho' rfl ?_
      clear hdep hfr ho' hdf
      go_simp
      exact hK _ _ (fun _ _ h => h) hJ (fun _ => rfl)
    | 15, ho, hd =>
      have ho' := ho
      simp only [List.getElem?_toArray, List.getElem?_cons_zero, List.getElem?_cons_succ, Option.some.injEq] at ho hd
      subst ho hd
      have r19 : a.eval (.tmp 19) = .int .u8 (bits .and .u8 f 4) := hdep ⟨14, .data⟩ (by simp) rfl 19 rfl
      rw [Vals.eval_tmp] at r19
      refine Vals.wpOp_run ho' rfl ?_
      clear hdep hfr ho' hdf
      go_simp
      exact hK _ _ (fun _ _ h => h) hJ (fun _ => congrArg Value.bool Hu.out)
    | 16, ho, hd =>
      have ho' := ho
      simp only [List.getElem?_toArray, List.getElem?_cons_zero, List.getElem?_cons_succ, Option.some.injEq] at ho hd
      subst ho hd
      have r1 : a.eval (.tmp 1) = .pointer (some ⟨w.heap.size, 0, none⟩) := hfr 1 (by decide)
      rw [Vals.eval_tmp] at r1
      refine Vals.wpOp_run ho' rfl ?_
      clear hdep hfr ho' hdf
      go_simp
      exact hK _ _ (fun _ _ h => h) hJ (fun _ => rfl)
    | 17, ho, hd =>
      have ho' := ho
      simp only [List.getElem?_toArray, List.getElem?_cons_zero, List.getElem?_cons_succ, Option.some.injEq] at ho hd
      subst ho hd
      have r21 : a.eval (.tmp 21) = .pointer (some ⟨w.heap.size, 1, none⟩) := hdep ⟨16, .data⟩ (by simp) rfl 21 rfl
      rw [Vals.eval_tmp] at r21
      have c0 := (HC.out.keep hJ).cell (i := 1) rfl
      refine Vals.wpOp_run ho' rfl ?_
      clear hdep hfr ho' hdf
      go_simp
      exact hK _ _ (fun _ _ h => h) hJ (fun _ => rfl)
    | 18, ho, hd =>
      have ho' := ho
      simp only [List.getElem?_toArray, List.getElem?_cons_zero, List.getElem?_cons_succ, Option.some.injEq] at ho hd
      subst ho hd
      have r22 : a.eval (.tmp 22) = .int .u8 f := hdep ⟨17, .data⟩ (by simp) rfl 22 rfl
      rw [Vals.eval_tmp] at r22
      refine Vals.wpOp_run ho' rfl ?_
      clear hdep hfr ho' hdf
      go_simp
      exact hK _ _ (fun _ _ h => h) hJ (fun _ => rfl)
    | 19, ho, hd =>
      have ho' := ho
      simp only [List.getElem?_toArray, List.getElem?_cons_zero, List.getElem?_cons_succ, Option.some.injEq] at ho hd
      subst ho hd
      have r23 : a.eval (.tmp 23) = .int .u8 (bits .and .u8 f 2) := hdep ⟨18, .data⟩ (by simp) rfl 23 rfl
      rw [Vals.eval_tmp] at r23
      refine Vals.wpOp_run ho' rfl ?_
      clear hdep hfr ho' hdf
      go_simp
      exact hK _ _ (fun _ _ h => h) hJ (fun _ => congrArg Value.bool Hfi.out)
    | 20, ho, hd =>
      have ho' := ho
      simp only [List.getElem?_toArray, List.getElem?_cons_zero, List.getElem?_cons_succ, Option.some.injEq] at ho hd
      subst ho hd
      have r1 : a.eval (.tmp 1) = .pointer (some ⟨w.heap.size, 0, none⟩) := hfr 1 (by decide)
      rw [Vals.eval_tmp] at r1
      refine Vals.wpOp_run ho' rfl ?_
      clear hdep hfr ho' hdf
      go_simp
      exact hK _ _ (fun _ _ h => h) hJ (fun _ => rfl)
    | 21, ho, hd =>
      have ho' := ho
      simp only [List.getElem?_toArray, List.getElem?_cons_zero, List.getElem?_cons_succ, Option.some.injEq] at ho hd
      subst ho hd
      have r25 : a.eval (.tmp 25) = .pointer (some ⟨w.heap.size, 1, none⟩) := hdep ⟨20, .data⟩ (by simp) rfl 25 rfl
      rw [Vals.eval_tmp] at r25
      have c0 := (HC.out.keep hJ).cell (i := 1) rfl
      refine Vals.wpOp_run ho' rfl ?_
      clear hdep hfr ho' hdf
      go_simp
      exact hK _ _ (fun _ _ h => h) hJ (fun _ => rfl)
    | 22, ho, hd =>
      have ho' := ho
      simp only [List.getElem?_toArray, List.getElem?_cons_zero, List.getElem?_cons_succ, Option.some.injEq] at ho hd
      subst ho hd
      have r26 : a.eval (.tmp 26) = .int .u8 f := hdep ⟨21, .data⟩ (by simp) rfl 26 rfl
      rw [Vals.eval_tmp] at r26
      refine Vals.wpOp_run ho' rfl ?_
      clear hdep hfr ho' hdf
      go_simp
      exact hK _ _ (fun _ _ h => h) hJ (fun _ => rfl)
    | 23, ho, hd =>
      have ho' := ho
      simp only [List.getElem?_toArray, List.getElem?_cons_zero, List.getElem?_cons_succ, Option.some.injEq] at ho hd
      subst ho hd
      have r27 : a.eval (.tmp 27) = .int .u8 (bits .and .u8 f 1) := hdep ⟨22, .data⟩ (by simp) rfl 27 rfl
      rw [Vals.eval_tmp] at r27
      refine Vals.wpOp_run ho' rfl ?_
      clear hdep hfr ho' hdf
      go_simp
      exact hK _ _ (fun _ _ h => h) hJ (fun _ => congrArg Value.bool Hl.out)
    | 24, ho, hd =>
      have ho' := ho
      simp only [List.getElem?_toArray, List.getElem?_cons_zero, List.getElem?_cons_succ, Option.some.injEq] at ho hd
      subst ho hd
      have r8 : a.eval (.tmp 8) = .int .u32 x0 := hdep ⟨3, .data⟩ (by simp) rfl 8 rfl
      rw [Vals.eval_tmp] at r8
      have r12 : a.eval (.tmp 12) = .int .u16 x1 := hdep ⟨7, .data⟩ (by simp) rfl 12 rfl
      rw [Vals.eval_tmp] at r12
      have r16 : a.eval (.tmp 16) = .int .u16 x2 := hdep ⟨11, .data⟩ (by simp) rfl 16 rfl
      rw [Vals.eval_tmp] at r16
      have r20 : a.eval (.tmp 20) = .bool u := hdep ⟨15, .data⟩ (by simp) rfl 20 rfl
      rw [Vals.eval_tmp] at r20
      have r24 : a.eval (.tmp 24) = .bool fi := hdep ⟨19, .data⟩ (by simp) rfl 24 rfl
      rw [Vals.eval_tmp] at r24
      have r28 : a.eval (.tmp 28) = .bool l := hdep ⟨23, .data⟩ (by simp) rfl 28 rfl
      rw [Vals.eval_tmp] at r28
      refine Vals.wpOp_run ho' rfl ?_
      clear hdep hfr ho' hdf
      go_simp
      exact hK _ _ (fun _ _ h => h) hJ (fun _ => rfl)
    | 25, ho, hd =>
      have ho' := ho
      simp only [List.getElem?_toArray, List.getElem?_cons_zero, List.getElem?_cons_succ, Option.some.injEq] at ho hd
      subst ho hd
      refine Vals.wpOp_run ho' rfl ?_
      clear hdep hfr ho' hdf
      go_simp
      have hb3 : Below W.heap.size W (W.alloc (.cells #[.int .u32 0, .int .u16 0, .int .u16 0, .bool false, .bool false, .bool false, .slice none 0 0] 26)) := (Below.refl _ _).alloc (Nat.le_refl _) _
      exact hK _ _ (GDat_mono hb3) (hJ.trans (hb3.mono hJ.size)) (fun _ => ⟨_, rfl, hJ.size, arr_new _ _ _⟩)
    | i + 26, ho, hd => omega
  case fin =>
    intro W fq hJ hG
    have q0 : fq 5 = .pointer (some ⟨w.heap.size, 2, none⟩) := hG 0 5 rfl
    have q1 : fq 6 = .slice p n c := hG 1 6 rfl
    have q2 : fq 7 = .int .u64 x0 := hG 2 7 rfl
    have q3 : fq 8 = .int .u32 x0 := hG 3 8 rfl
    have q4 : fq 9 = .pointer (some ⟨w.heap.size, 2, none⟩) := hG 4 9 rfl
    have q5 : fq 10 = .slice p n c := hG 5 10 rfl
    have q6 : fq 11 = .int .u64 x1 := hG 6 11 rfl
    have q7 : fq 12 = .int .u16 x1 := hG 7 12 rfl
    have q8 : fq 13 = .pointer (some ⟨w.heap.size, 2, none⟩) := hG 8 13 rfl
    have q9 : fq 14 = .slice p n c := hG 9 14 rfl
    have q10 : fq 15 = .int .u64 x2 := hG 10 15 rfl
    have q11 : fq 16 = .int .u16 x2 := hG 11 16 rfl
    have q12 : fq 17 = .pointer (some ⟨w.heap.size, 1, none⟩) := hG 12 17 rfl
    have q13 : fq 18 = .int .u8 f := hG 13 18 rfl
    have q14 : fq 19 = .int .u8 (bits .and .u8 f 4) := hG 14 19 rfl
    have q15 : fq 20 = .bool u := hG 15 20 rfl
    have q16 : fq 21 = .pointer (some ⟨w.heap.size, 1, none⟩) := hG 16 21 rfl
    have q17 : fq 22 = .int .u8 f := hG 17 22 rfl
    have q18 : fq 23 = .int .u8 (bits .and .u8 f 2) := hG 18 23 rfl
    have q19 : fq 24 = .bool fi := hG 19 24 rfl
    have q20 : fq 25 = .pointer (some ⟨w.heap.size, 1, none⟩) := hG 20 25 rfl
    have q21 : fq 26 = .int .u8 f := hG 21 26 rfl
    have q22 : fq 27 = .int .u8 (bits .and .u8 f 1) := hG 22 27 rfl
    have q23 : fq 28 = .bool l := hG 23 28 rfl
    have q24 : fq 29 = .agg #[.int .u32 x0, .int .u16 x1, .int .u16 x2, .bool u, .bool fi, .bool l, .slice none 0 0] := hG 24 29 rfl
    obtain ⟨gn_4, q25, hq4_0, hq4_1⟩ : ∃ gn_4, fq 4 = .pointer (some ⟨gn_4, 0, none⟩) ∧ wE.heap.size ≤ gn_4 ∧ Arr W gn_4 26 [.int .u32 0, .int .u16 0, .int .u16 0, .bool false, .bool false, .bool false, .slice none 0 0] := hG 25 4 rfl
    clear hG
    refine Vals.wpOp_run rfl rfl ?_
    simp only [Vals.puts, Vals.pairs, List.filterMap_cons, List.filterMap_nil, id, List.map_cons, List.map_nil, List.foldl_cons, List.foldl_nil, q0, q1, q2, q3, q4, q5, q6, q7, q8, q9, q10, q11, q12, q13, q14, q15, q16, q17, q18, q19, q20, q21, q22, q23, q24, q25]
    clear q0 q1 q2 q3 q4 q5 q6 q7 q8 q9 q10 q11 q12 q13 q14 q15 q16 q17 q18 q19 q20 q21 q22 q23 q24 q25
    go_frame
    obtain ⟨W4, hW4⟩ : ∃ x, (((((((W.setCell ⟨gn_4, 0, none⟩ (.int .u32 x0)).setCell ⟨gn_4, 1, none⟩ (.int .u16 x1)).setCell ⟨gn_4, 2, none⟩ (.int .u16 x2)).setCell ⟨gn_4, 3, none⟩ (.bool u)).setCell ⟨gn_4, 4, none⟩ (.bool fi)).setCell ⟨gn_4, 5, none⟩ (.bool l)).setCell ⟨gn_4, 6, none⟩ (.slice none 0 0)) = x := ⟨_, rfl⟩
    have hA4 : Arr _ gn_4 26 [.int .u32 x0, .int .u16 x1, .int .u16 x2, .bool u, .bool fi, .bool l, .slice none 0 0] := (((((((hq4_1.set 0 (.int .u32 x0)).set 1 (.int .u16 x1)).set 2 (.int .u16 x2)).set 3 (.bool u)).set 4 (.bool fi)).set 5 (.bool l)).set 6 (.slice none 0 0))
    have hB4 := ((((((((hJ : Below wE.heap.size wE W).setCell (p := ⟨gn_4, 0, none⟩) hq4_0 (.int .u32 x0)).setCell (p := ⟨gn_4, 1, none⟩) hq4_0 (.int .u16 x1)).setCell (p := ⟨gn_4, 2, none⟩) hq4_0 (.int .u16 x2)).setCell (p := ⟨gn_4, 3, none⟩) hq4_0 (.bool u)).setCell (p := ⟨gn_4, 4, none⟩) hq4_0 (.bool fi)).setCell (p := ⟨gn_4, 5, none⟩) hq4_0 (.bool l)).setCell (p := ⟨gn_4, 6, none⟩) hq4_0 (.slice none 0 0))
    rw [hW4] at hA4 hB4
    have fr0 := hq4_1.free 0
    have fr1 := hq4_1.free 1
    have fr2 := hq4_1.free 2
    have fr3 := hq4_1.free 3
    have fr4 := hq4_1.free 4
    have fr5 := hq4_1.free 5
    have fr6 := hq4_1.free 6
    have y0 := hq4_1.cell (i := 0) rfl
    have y1 := hq4_1.cell (i := 1) rfl
    have y2 := hq4_1.cell (i := 2) rfl
    have y3 := hq4_1.cell (i := 3) rfl
    have y4 := hq4_1.cell (i := 4) rfl
    have y5 := hq4_1.cell (i := 5) rfl
    have y6 := hq4_1.cell (i := 6) rfl
    have HA4 := Lib.hid hA4
    have HB4 := Lib.hid hB4
    have HGN := Lib.hid hq4_0
    clear hJ hq4_1 hq4_0 hA4 hB4
    go_simp
    have cc0 := (HC.out.keep HB4.out).cell (i := 0) rfl
    have cc1 := (HC.out.keep HB4.out).cell (i := 1) rfl
    have cc2 := (HC.out.keep HB4.out).cell (i := 2) rfl
    clear fr0 fr1 fr2 fr3 fr4 fr5 fr6 y0 y1 y2 y3 y4 y5 y6
    have HCUT := Lib.hid (cut12 p n c zs W4 (HRW.out W4 HB4.out) hc hn)
    go_wp2_with fail
    refine HCUT.out.mono ?_
    rintro e w5 ⟨a5, c5, b5, rfl, hb5, hr5⟩
    have hA5 := HA4.out.keep hb5
    have hB5 := HB4.out.trans (hb5.mono HB4.out.size)
    have hlt5 : gn_4 < W4.heap.size := HA4.out.lt
    obtain ⟨w6, hw6⟩ : ∃ x, w5.setCell ⟨gn_4, 6, none⟩ (.slice a5 (n - 12) c5) = x := ⟨_, rfl⟩
    have hA6 : Arr _ gn_4 26 [.int .u32 x0, .int .u16 x1, .int .u16 x2, .bool u, .bool fi, .bool l, .slice a5 (n - 12) c5] := hA5.set 6 (.slice a5 (n - 12) c5)
    have hB6 := hB5.setCell (p := ⟨gn_4, 6, none⟩) HGN.out (.slice a5 (n - 12) c5)
    have hr6 := hr5.setAt hA5 (by decide) 6 (.slice a5 (n - 12) c5)
    rw [hw6] at hA6 hB6 hr6
    have fr6 := hA5.free 6
    have y6 := hA5.cell (i := 6) rfl
    have d0 := hA6.cell (i := 0) rfl
    have d1 := hA6.cell (i := 1) rfl
    have d2 := hA6.cell (i := 2) rfl
    have d3 := hA6.cell (i := 3) rfl
    have d4 := hA6.cell (i := 4) rfl
    have d5 := hA6.cell (i := 5) rfl
    have d6 := hA6.cell (i := 6) rfl
    have ce0 := (HC.out.keep hB6).cell (i := 0) rfl
    have ce1 := (HC.out.keep hB6).cell (i := 1) rfl
    have ce2 := (HC.out.keep hB6).cell (i := 2) rfl
    have hck := checkedData k f 0 (dflags u fi l) p n c zs (dataB x0 x1 x2 (zs.drop 12)) true x0 x1 x2 u fi l a5 (n - 12) c5 w6 (HRW.out w6 hB6) hz (dataB_byt _ _ _ (hz.drop 12)) (by omega) (by rw [dataB_len]; have := (HRW.out w6 hB6).1; simp; omega)
      (fun W h => pputData x0 x1 x2 u fi l a5 (n - 12) c5 (zs.drop 12) W (hr6.reads.below h) (by omega) lox0 hix0 lox1 hix1 lox2 hix2)
    have HCK := Lib.hid hck
    have H6 := Lib.hid (And.intro hB6 (And.intro hr6 (And.intro (HZ.out.keep hB6) (Nat.le_trans HBE.out.1.size HB4.out.size))))
    clear hck hb5 hr5 hA5 hB5 hlt5 hA6 hB6 hr6 HA4 HB4 HCUT cc0 cc1 cc2
    go_wp2_with fail
    refine HCK.out.mono ?_
    rintro e w7 ⟨hch, hb7⟩
    have hz7 := H6.out.2.2.1.keep hb7
    have hB7 := HBE.out.1.trans ((H6.out.1.trans (hb7.mono H6.out.1.size)).mono HBE.out.1.size)
    have hr7 := (H6.out.2.1.keep hb7).lower H6.out.2.2.2
    rcases hch with ⟨hch, rfl⟩ | ⟨hch, rfl⟩
    · obtain ⟨w8, hw8⟩ : ∃ x, (((((((w7.setCell ⟨(w.heap.size + 1), 0, none⟩ (.int .u32 x0)).setCell ⟨(w.heap.size + 1), 1, none⟩ (.int .u16 x1)).setCell ⟨(w.heap.size + 1), 2, none⟩ (.int .u16 x2)).setCell ⟨(w.heap.size + 1), 3, none⟩ (.bool u)).setCell ⟨(w.heap.size + 1), 4, none⟩ (.bool fi)).setCell ⟨(w.heap.size + 1), 5, none⟩ (.bool l)).setCell ⟨(w.heap.size + 1), 6, none⟩ (.slice a5 (n - 12) c5)) = x := ⟨_, rfl⟩
      have hA4 : Arr _ (w.heap.size + 1) 26 [.int .u32 x0, .int .u16 x1, .int .u16 x2, .bool u, .bool fi, .bool l, .slice a5 (n - 12) c5] := (((((((hz7.set 0 (.int .u32 x0)).set 1 (.int .u16 x1)).set 2 (.int .u16 x2)).set 3 (.bool u)).set 4 (.bool fi)).set 5 (.bool l)).set 6 (.slice a5 (n - 12) c5))
      have hB4 := (((((((hB7.setCell (p := ⟨(w.heap.size + 1), 0, none⟩) (by simp) (.int .u32 x0)).setCell (p := ⟨(w.heap.size + 1), 1, none⟩) (by simp) (.int .u16 x1)).setCell (p := ⟨(w.heap.size + 1), 2, none⟩) (by simp) (.int .u16 x2)).setCell (p := ⟨(w.heap.size + 1), 3, none⟩) (by simp) (.bool u)).setCell (p := ⟨(w.heap.size + 1), 4, none⟩) (by simp) (.bool fi)).setCell (p := ⟨(w.heap.size + 1), 5, none⟩) (by simp) (.bool l)).setCell (p := ⟨(w.heap.size + 1), 6, none⟩) (by simp) (.slice a5 (n - 12) c5))
      have hr74 := (((((((hr7.setAt hz7 (by decide) 0 (.int .u32 x0)).setAt (hz7.set 0 (.int .u32 x0)) (by decide) 1 (.int .u16 x1)).setAt ((hz7.set 0 (.int .u32 x0)).set 1 (.int .u16 x1)) (by decide) 2 (.int .u16 x2)).setAt (((hz7.set 0 (.int .u32 x0)).set 1 (.int .u16 x1)).set 2 (.int .u16 x2)) (by decide) 3 (.bool u)).setAt ((((hz7.set 0 (.int .u32 x0)).set 1 (.int .u16 x1)).set 2 (.int .u16 x2)).set 3 (.bool u)) (by decide) 4 (.bool fi)).setAt (((((hz7.set 0 (.int .u32 x0)).set 1 (.int .u16 x1)).set 2 (.int .u16 x2)).set 3 (.bool u)).set 4 (.bool fi)) (by decide) 5 (.bool l)).setAt ((((((hz7.set 0 (.int .u32 x0)).set 1 (.int .u16 x1)).set 2 (.int .u16 x2)).set 3 (.bool u)).set 4 (.bool fi)).set 5 (.bool l)) (by decide) 6 (.slice a5 (n - 12) c5))
      rw [hw8] at hA4 hB4 hr74
      have fs0 := hz7.free 0
      have fs1 := hz7.free 1
      have fs2 := hz7.free 2
      have fs3 := hz7.free 3
      have fs4 := hz7.free 4
      have fs5 := hz7.free 5
      have fs6 := hz7.free 6
      have yy0 := hz7.cell (i := 0) rfl
      have yy1 := hz7.cell (i := 1) rfl
      have yy2 := hz7.cell (i := 2) rfl
      have yy3 := hz7.cell (i := 3) rfl
      have yy4 := hz7.cell (i := 4) rfl
      have yy5 := hz7.cell (i := 5) rfl
      have yy6 := hz7.cell (i := 6) rfl
      have zz0 := hA4.cell (i := 0) rfl
      have zz1 := hA4.cell (i := 1) rfl
      have zz2 := hA4.cell (i := 2) rfl
      have zz3 := hA4.cell (i := 3) rfl
      have zz4 := hA4.cell (i := 4) rfl
      have zz5 := hA4.cell (i := 5) rfl
      have zz6 := hA4.cell (i := 6) rfl
      have HE := Lib.hid (And.intro hB4 (And.intro hr74 hch))
      clear hz7 hB7 hr7 hA4 hB4 hr74 hch HCK H6 HZ HBE HRW HC
      go_wp2
      exact bodyPost_ret (by simp [results, Try.results16, go_sem, zz0, zz1, zz2, zz3, zz4, zz5, zz6] <;> rfl) rfl ⟨a5, c5, .inl ⟨by have h := HE.out.2.2; simpa using h, rfl⟩, HE.out.1, HE.out.2.1⟩
    · obtain ⟨w8, hw8⟩ : ∃ x, (((((((w7.setCell ⟨(w.heap.size + 1), 0, none⟩ (.int .u32 0)).setCell ⟨(w.heap.size + 1), 1, none⟩ (.int .u16 0)).setCell ⟨(w.heap.size + 1), 2, none⟩ (.int .u16 0)).setCell ⟨(w.heap.size + 1), 3, none⟩ (.bool false)).setCell ⟨(w.heap.size + 1), 4, none⟩ (.bool false)).setCell ⟨(w.heap.size + 1), 5, none⟩ (.bool false)).setCell ⟨(w.heap.size + 1), 6, none⟩ (.slice none 0 0)) = x := ⟨_, rfl⟩
      have hA4 : Arr _ (w.heap.size + 1) 26 [.int .u32 0, .int .u16 0, .int .u16 0, .bool false, .bool false, .bool false, .slice none 0 0] := (((((((hz7.set 0 (.int .u32 0)).set 1 (.int .u16 0)).set 2 (.int .u16 0)).set 3 (.bool false)).set 4 (.bool false)).set 5 (.bool false)).set 6 (.slice none 0 0))
      have hB4 := (((((((hB7.setCell (p := ⟨(w.heap.size + 1), 0, none⟩) (by simp) (.int .u32 0)).setCell (p := ⟨(w.heap.size + 1), 1, none⟩) (by simp) (.int .u16 0)).setCell (p := ⟨(w.heap.size + 1), 2, none⟩) (by simp) (.int .u16 0)).setCell (p := ⟨(w.heap.size + 1), 3, none⟩) (by simp) (.bool false)).setCell (p := ⟨(w.heap.size + 1), 4, none⟩) (by simp) (.bool false)).setCell (p := ⟨(w.heap.size + 1), 5, none⟩) (by simp) (.bool false)).setCell (p := ⟨(w.heap.size + 1), 6, none⟩) (by simp) (.slice none 0 0))
      have hr74 := (((((((hr7.setAt hz7 (by decide) 0 (.int .u32 0)).setAt (hz7.set 0 (.int .u32 0)) (by decide) 1 (.int .u16 0)).setAt ((hz7.set 0 (.int .u32 0)).set 1 (.int .u16 0)) (by decide) 2 (.int .u16 0)).setAt (((hz7.set 0 (.int .u32 0)).set 1 (.int .u16 0)).set 2 (.int .u16 0)) (by decide) 3 (.bool false)).setAt ((((hz7.set 0 (.int .u32 0)).set 1 (.int .u16 0)).set 2 (.int .u16 0)).set 3 (.bool false)) (by decide) 4 (.bool false)).setAt (((((hz7.set 0 (.int .u32 0)).set 1 (.int .u16 0)).set 2 (.int .u16 0)).set 3 (.bool false)).set 4 (.bool false)) (by decide) 5 (.bool false)).setAt ((((((hz7.set 0 (.int .u32 0)).set 1 (.int .u16 0)).set 2 (.int .u16 0)).set 3 (.bool false)).set 4 (.bool false)).set 5 (.bool false)) (by decide) 6 (.slice none 0 0))
      rw [hw8] at hA4 hB4 hr74
      have fs0 := hz7.free 0
      have fs1 := hz7.free 1
      have fs2 := hz7.free 2
      have fs3 := hz7.free 3
      have fs4 := hz7.free 4
      have fs5 := hz7.free 5
      have fs6 := hz7.free 6
      have yy0 := hz7.cell (i := 0) rfl
      have yy1 := hz7.cell (i := 1) rfl
      have yy2 := hz7.cell (i := 2) rfl
      have yy3 := hz7.cell (i := 3) rfl
      have yy4 := hz7.cell (i := 4) rfl
      have yy5 := hz7.cell (i := 5) rfl
      have yy6 := hz7.cell (i := 6) rfl
      have zz0 := hA4.cell (i := 0) rfl
      have zz1 := hA4.cell (i := 1) rfl
      have zz2 := hA4.cell (i := 2) rfl
      have zz3 := hA4.cell (i := 3) rfl
      have zz4 := hA4.cell (i := 4) rfl
      have zz5 := hA4.cell (i := 5) rfl
      have zz6 := hA4.cell (i := 6) rfl
      have HE := Lib.hid (And.intro hB4 (And.intro hr74 hch))
      clear hz7 hB7 hr7 hA4 hB4 hr74 hch HCK H6 HZ HBE HRW HC
      go_wp2
      exact bodyPost_ret (by simp [results, Try.results16, go_sem, zz0, zz1, zz2, zz3, zz4, zz5, zz6] <;> rfl) rfl ⟨a5, c5, .inr ⟨by have h := HE.out.2.2; simpa using h, rfl⟩, HE.out.1, HE.out.2.1⟩

set_option maxRecDepth 100000 in
set_option maxHeartbeats 1600000 in
theorem pgetData_nil (k f : Int) (p : Option Addr) (n c : Nat) (zs : List Int) (w : World) (hr : Reads w p n zs) (hz : Byt zs) (hc : n ≤ c) (hn : n ≤ 281474976) (x0 : Int) (hxx0 : natAt zs 0 4 = x0) (x1 : Int) (hxx1 : natAt zs 4 2 = x1) (x2 : Int) (hxx2 : natAt zs 6 2 = x2) (u : Bool) (hu : (bits .and .u8 f 4 != 0) = u) (fi : Bool) (hfi : (bits .and .u8 f 2 != 0) = fi) (l : Bool) (hl : (bits .and .u8 f 1 != 0) = l) (hm : n - 12 = 0) :
    Calls Try.prog 16 #[.agg #[.int .u8 k, .int .u8 f, .slice p n c]] w fun e w' => ∃ a1 c1, Chose (false) (.agg #[.int .u32 x0, .int .u16 x1, .int .u16 x2, .bool u, .bool fi, .bool l, .slice a1 (n - 12) c1]) (.agg #[.int .u32 0, .int .u16 0, .int .u16 0, .bool false, .bool false, .bool false, .slice none 0 0]) e ∧ Below w.heap.size w w' ∧ Row8 w.heap.size w' a1 (n - 12) c1 (zs.drop 12) := by
  have HNx0 := Lib.hid (show ∀ W, Reads W p n zs → Calls Try.prog 50 #[.slice p n c, .int .i64 0, .int .i64 4] W fun e w' => e = .returned (.int .u64 x0) ∧ W = w' from fun W h => hxx0 ▸ num_any p n c 0 4 zs W h hz (by omega) (by omega) rfl)
  obtain ⟨lox0, hix0⟩ : 0 ≤ x0 ∧ x0 < 4294967296 := hxx0 ▸ natAt4 hz 0
  have HNx1 := Lib.hid (show ∀ W, Reads W p n zs → Calls Try.prog 50 #[.slice p n c, .int .i64 4, .int .i64 2] W fun e w' => e = .returned (.int .u64 x1) ∧ W = w' from fun W h => hxx1 ▸ num_any p n c 4 2 zs W h hz (by omega) (by omega) rfl)
  obtain ⟨lox1, hix1⟩ : 0 ≤ x1 ∧ x1 < 65536 := hxx1 ▸ natAt2 hz 4
  have HNx2 := Lib.hid (show ∀ W, Reads W p n zs → Calls Try.prog 50 #[.slice p n c, .int .i64 6, .int .i64 2] W fun e w' => e = .returned (.int .u64 x2) ∧ W = w' from fun W h => hxx2 ▸ num_any p n c 6 2 zs W h hz (by omega) (by omega) rfl)
  obtain ⟨lox2, hix2⟩ : 0 ≤ x2 ∧ x2 < 65536 := hxx2 ▸ natAt2 hz 6
  have Hu := Lib.hid hu
  have Hfi := Lib.hid hfi
  have Hl := Lib.hid hl
  clear hu hfi hl
  obtain ⟨wa, hwa⟩ : ∃ wa, w.alloc (.cells #[.int .u8 k, .int .u8 f, .slice p n c] 28) = wa := ⟨_, rfl⟩
  have hba : Below w.heap.size w wa := by rw [← hwa]; exact chunkBelow w k f _
  have hsa : wa.heap.size = w.heap.size + 1 := by rw [← hwa]; simp
  have hca : Arr wa w.heap.size 28 [.int .u8 k, .int .u8 f, .slice p n c] := by rw [← hwa]; exact chunkBox w k f _
  obtain ⟨wE, hwE⟩ : ∃ wE, wa.alloc (.cells #[.int .u32 0, .int .u16 0, .int .u16 0, .bool false, .bool false, .bool false, .slice none 0 0] 26) = wE := ⟨_, rfl⟩
  have hbE0 : Below wa.heap.size wa wE := by rw [← hwE]; exact (Below.refl _ _).alloc (Nat.le_refl _) _
  have hsE : wE.heap.size = w.heap.size + 2 := by rw [← hwE]; simp; omega
  have hzE : Arr wE (w.heap.size + 1) 26 [.int .u32 0, .int .u16 0, .int .u16 0, .bool false, .bool false, .bool false, .slice none 0 0] := by rw [← hwE, ← hsa]; exact arr_new _ _ _
  have hcE := hca.keep hbE0
  have hbE := hba.trans (hbE0.mono hba.size)
  have hr2 := hr.below hbE
  have HRW := Lib.hid (show ∀ W, Below wE.heap.size wE W → Reads W p n zs from fun W h => hr2.below h)
  have HC := Lib.hid hcE
  have HZ := Lib.hid hzE
  have HBE := Lib.hid (And.intro hbE hsE)
  have hg13 : ¬ (0 : Int) < ((n - 12 : Nat) : Int) := by omega
  have hg14 : ¬ 12 < n := by omega
  have hg15 : decide (0 < n - 12) = false := by simp; omega
  have HM := Lib.hid hm
  clear hm
  clear hba hca hbE0 hzE hcE hbE hr hr2 hxx0 hxx1 hxx2
  go_enter Try.func16, Try.ntmps16
  go_wp2_with fail
  refine wp_region_any (by kernel_rfl) ?_
  refine Vals.wpAny_goodLast (GDat w wE k f x0 x1 x2 u fi l p n c) (fun W => Below wE.heap.size wE W) [some 5, some 6, some 7, some 8, some 9, some 10, some 11, some 12, some 13, some 14, some 15, some 16, some 17, some 18, some 19, some 20, some 21, some 22, some 23, some 24, some 25, some 26, some 27, some 28, some 29, some 4, none] 26 50 _ _ rfl (by kernel_rfl) (by kernel_rfl) (by kernel_rfl) (by decide) rfl ?step ?fin (Below.refl _ _).drew
  case step =>
    intro i o d ho hd hiN a W hJ hdf hdep hfr K hK
    match i, ho, hd with
    | 0, ho, hd =>
      have ho' := ho
      simp only [List.getElem?_toArray, List.getElem?_cons_zero, Option.some.injEq] at ho hd
      subst ho hd
      have r1 : a.eval (.tmp 1) = .pointer (some ⟨w.heap.size, 0, none⟩) := hfr 1 (by decide)
      rw [Vals.eval_tmp] at r1
      refine Vals.wpOp_run ho' rfl ?_
      clear hdep hfr ho' hdf
      go_simp
      exact hK _ _ (fun _ _ h => h) hJ (fun _ => rfl)
    | 1, ho, hd =>
      have ho' := ho
      simp only [List.getElem?_toArray, List.getElem?_cons_zero, List.getElem?_cons_succ, Option.some.injEq] at ho hd
      subst ho hd
      have r5 : a.eval (.tmp 5) = .pointer (some ⟨w.heap.size, 2, none⟩) := hdep ⟨0, .data⟩ (by simp) rfl 5 rfl
      rw [Vals.eval_tmp] at r5
      have c0 := (HC.out.keep hJ).cell (i := 2) rfl
      refine Vals.wpOp_run ho' rfl ?_
      clear hdep hfr ho' hdf
      go_simp
      exact hK _ _ (fun _ _ h => h) hJ (fun _ => rfl)
    | 2, ho, hd =>
      have ho' := ho
      simp only [List.getElem?_toArray, List.getElem?_cons_zero, List.getElem?_cons_succ, Option.some.injEq] at ho hd
      subst ho hd
      have r6 : a.eval (.tmp 6) = .slice p n c := hdep ⟨1, .data⟩ (by simp) rfl 6 rfl
      rw [Vals.eval_tmp] at r6
      refine Vals.wpOp_run ho' rfl ?_
      clear hdep hfr ho' hdf
      go_simp
      refine (HNx0.out W (HRW.out W hJ)).mono ?_
      rintro e w' ⟨rfl, rfl⟩
      exact hK _ _ (fun _ _ h => h) hJ (fun _ => rfl)
    | 3, ho, hd =>
      have ho' := ho
      simp only [List.getElem?_toArray, List.getElem?_cons_zero, List.getElem?_cons_succ, Option.some.injEq] at ho hd
      subst ho hd
      have r7 : a.eval (.tmp 7) = .int .u64 x0 := hdep ⟨2, .data⟩ (by simp) rfl 7 rfl
      rw [Vals.eval_tmp] at r7
      refine Vals.wpOp_run ho' rfl ?_
      clear hdep hfr ho' hdf
      go_simp
      exact hK _ _ (fun _ _ h => h) hJ (fun _ => (by first | rfl | exact congrArg (Value.int _) (Int.emod_eq_of_lt (by assumption) (by assumption))))
    | 4, ho, hd =>
      have ho' := ho
      simp only [List.getElem?_toArray, List.getElem?_cons_zero, List.getElem?_cons_succ, Option.some.injEq] at ho hd
      subst ho hd
      have r1 : a.eval (.tmp 1) = .pointer (some ⟨w.heap.size, 0, none⟩) := hfr 1 (by decide)
      rw [Vals.eval_tmp] at r1
      refine Vals.wpOp_run ho' rfl ?_
      clear hdep hfr ho' hdf
      go_simp
      exact hK _ _ (fun _ _ h => h) hJ (fun _ => rfl)
    | 5, ho, hd =>
      have ho' := ho
      simp only [List.getElem?_toArray, List.getElem?_cons_zero, List.getElem?_cons_succ, Option.some.injEq] at ho hd
      subst ho hd
      have r9 : a.eval (.tmp 9) = .pointer (some ⟨w.heap.size, 2, none⟩) := hdep ⟨4, .data⟩ (by simp) rfl 9 rfl
      rw [Vals.eval_tmp] at r9
      have c0 := (HC.out.keep hJ).cell (i := 2) rfl
      refine Vals.wpOp_run ho' rfl ?_
      clear hdep hfr ho' hdf
      go_simp
      exact hK _ _ (fun _ _ h => h) hJ (fun _ => rfl)
    | 6, ho, hd =>
      have ho' := ho
      simp only [List.getElem?_toArray, List.getElem?_cons_zero, List.getElem?_cons_succ, Option.some.injEq] at ho hd
      subst ho hd
      have r10 : a.eval (.tmp 10) = .slice p n c := hdep ⟨5, .data⟩ (by simp) rfl 10 rfl
      rw [Vals.eval_tmp] at r10
      refine Vals.wpOp_run ho' rfl ?_
      clear hdep hfr ho' hdf
      go_simp
      refine (HNx1.out W (HRW.out W hJ)).mono ?_
      rintro e w' ⟨rfl, rfl⟩
      exact hK _ _ (fun _ _ h => h) hJ (fun _ => rfl)
    | 7, ho, hd =>
      have ho' := ho
      simp only [List.getElem?_toArray, List.getElem?_cons_zero, List.getElem?_cons_succ, Option.some.injEq] at ho hd
      subst ho hd
      have r11 : a.eval (.tmp 11) = .int .u64 x1 := hdep ⟨6, .data⟩ (by simp) rfl 11 rfl
      rw [Vals.eval_tmp] at r11
      refine Vals.wpOp_run ho' rfl ?_
      clear hdep hfr ho' hdf
      go_simp
      exact hK _ _ (fun _ _ h => h) hJ (fun _ => (by first | rfl | exact congrArg (Value.int _) (Int.emod_eq_of_lt (by assumption) (by assumption))))
    | 8, ho, hd =>
      have ho' := ho
      simp only [List.getElem?_toArray, List.getElem?_cons_zero, List.getElem?_cons_succ, Option.some.injEq] at ho hd
      subst ho hd
      have r1 : a.eval (.tmp 1) = .pointer (some ⟨w.heap.size, 0, none⟩) := hfr 1 (by decide)
      rw [Vals.eval_tmp] at r1
      refine Vals.wpOp_run ho' rfl ?_
      clear hdep hfr ho' hdf
      go_simp
      exact hK _ _ (fun _ _ h => h) hJ (fun _ => rfl)
    | 9, ho, hd =>
      have ho' := ho
      simp only [List.getElem?_toArray, List.getElem?_cons_zero, List.getElem?_cons_succ, Option.some.injEq] at ho hd
      subst ho hd
      have r13 : a.eval (.tmp 13) = .pointer (some ⟨w.heap.size, 2, none⟩) := hdep ⟨8, .data⟩ (by simp) rfl 13 rfl
      rw [Vals.eval_tmp] at r13
      have c0 := (HC.out.keep hJ).cell (i := 2) rfl
      refine Vals.wpOp_run ho' rfl ?_
      clear hdep hfr ho' hdf
      go_simp
      exact hK _ _ (fun _ _ h => h) hJ (fun _ => rfl)
    | 10, ho, hd =>
      have ho' := ho
      simp only [List.getElem?_toArray, List.getElem?_cons_zero, List.getElem?_cons_succ, Option.some.injEq] at ho hd
      subst ho hd
      have r14 : a.eval (.tmp 14) = .slice p n c := hdep ⟨9, .data⟩ (by simp) rfl 14 rfl
      rw [Vals.eval_tmp] at r14
      refine Vals.wpOp_run ho' rfl ?_
      clear hdep hfr ho' hdf
      go_simp
      refine (HNx2.out W (HRW.out W hJ)).mono ?_
      rintro e w' ⟨rfl, rfl⟩
      exact hK _ _ (fun _ _ h => h) hJ (fun _ => rfl)
    | 11, ho, hd =>
      have ho' := ho
      simp only [List.getElem?_toArray, List.getElem?_cons_zero, List.getElem?_cons_succ, Option.some.injEq] at ho hd
      subst ho hd
      have r15 : a.eval (.tmp 15) = .int .u64 x2 := hdep ⟨10, .data⟩ (by simp) rfl 15 rfl
      rw [Vals.eval_tmp] at r15
      refine Vals.wpOp_run ho' rfl ?_
      clear hdep hfr ho' hdf
      go_simp
      exact hK _ _ (fun _ _ h => h) hJ (fun _ => (by first | rfl | exact congrArg (Value.int _) (Int.emod_eq_of_lt (by assumption) (by assumption))))
    | 12, ho, hd =>
      have ho' := ho
      simp only [List.getElem?_toArray, List.getElem?_cons_zero, List.getElem?_cons_succ, Option.some.injEq] at ho hd
      subst ho hd
      have r1 : a.eval (.tmp 1) = .pointer (some ⟨w.heap.size, 0, none⟩) := hfr 1 (by decide)
      rw [Vals.eval_tmp] at r1
      refine Vals.wpOp_run ho' rfl ?_
      clear hdep hfr ho' hdf
      go_simp
      exact hK _ _ (fun _ _ h => h) hJ (fun _ => rfl)
    | 13, ho, hd =>
      have ho' := ho
      simp only [List.getElem?_toArray, List.getElem?_cons_zero, List.getElem?_cons_succ, Option.some.injEq] at ho hd
      subst ho hd
      have r17 : a.eval (.tmp 17) = .pointer (some ⟨w.heap.size, 1, none⟩) := hdep ⟨12, .data⟩ (by simp) rfl 17 rfl
      rw [Vals.eval_tmp] at r17
      have c0 := (HC.out.keep hJ).cell (i := 1) rfl
      refine Vals.wpOp_run ho' rfl ?_
      clear hdep hfr ho' hdf
      go_simp
      exact hK _ _ (fun _ _ h => h) hJ (fun _ => rfl)
    | 14, ho, hd =>
      have ho' := ho
      simp only [List.getElem?_toArray, List.getElem?_cons_zero, List.getElem?_cons_succ, Option.some.injEq] at ho hd
      subst ho hd
      have r18 : a.eval (.tmp 18) = .int .u8 f := hdep ⟨13, .data⟩ (by simp) rfl 18 rfl
      rw [Vals.eval_tmp] at r18
      refine Vals.wpOp_run ho' rfl ?_
      clear hdep hfr ho' hdf
      go_simp
      exact hK _ _ (fun _ _ h => h) hJ (fun _ => rfl)
    | 15, ho, hd =>
      have ho' := ho
      simp only [List.getElem?_toArray, List.getElem?_cons_zero, List.getElem?_cons_succ, Option.some.injEq] at ho hd
      subst ho hd
      have r19 : a.eval (.tmp 19) = .int .u8 (bits .and .u8 f 4) := hdep ⟨14, .data⟩ (by simp) rfl 19 rfl
      rw [Vals.eval_tmp] at r19
      refine Vals.wpOp_run ho' rfl ?_
      clear hdep hfr ho' hdf
      go_simp
      exact hK _ _ (fun _ _ h => h) hJ (fun _ => congrArg Value.bool Hu.out)
    | 16, ho, hd =>
      have ho' := ho
      simp only [List.getElem?_toArray, List.getElem?_cons_zero, List.getElem?_cons_succ, Option.some.injEq] at ho hd
      subst ho hd
      have r1 : a.eval (.tmp 1) = .pointer (some ⟨w.heap.size, 0, none⟩) := hfr 1 (by decide)
      rw [Vals.eval_tmp] at r1
      refine Vals.wpOp_run ho' rfl ?_
      clear hdep hfr ho' hdf
      go_simp
      exact hK _ _ (fun _ _ h => h) hJ (fun _ => rfl)
    | 17, ho, hd =>
      have ho' := ho
      simp only [List.getElem?_toArray, List.getElem?_cons_zero, List.getElem?_cons_succ, Option.some.injEq] at ho hd
      subst ho hd
      have r21 : a.eval (.tmp 21) = .pointer (some ⟨w.heap.size, 1, none⟩) := hdep ⟨16, .data⟩ (by simp) rfl 21 rfl
      rw [Vals.eval_tmp] at r21
      have c0 := (HC.out.keep hJ).cell (i := 1) rfl
      refine Vals.wpOp_run ho' rfl ?_
      clear hdep hfr ho' hdf
      go_simp
      exact hK _ _ (fun _ _ h => h) hJ (fun _ => rfl)
    | 18, ho, hd =>
      have ho' := ho
      simp only [List.getElem?_toArray, List.getElem?_cons_zero, List.getElem?_cons_succ, Option.some.injEq] at ho hd
      subst ho hd
      have r22 : a.eval (.tmp 22) = .int .u8 f := hdep ⟨17, .data⟩ (by simp) rfl 22 rfl
      rw [Vals.eval_tmp] at r22
      refine Vals.wpOp_run ho' rfl ?_
      clear hdep hfr ho' hdf
      go_simp
      exact hK _ _ (fun _ _ h => h) hJ (fun _ => rfl)
    | 19, ho, hd =>
      have ho' := ho
      simp only [List.getElem?_toArray, List.getElem?_cons_zero, List.getElem?_cons_succ, Option.some.injEq] at ho hd
      subst ho hd
      have r23 : a.eval (.tmp 23) = .int .u8 (bits .and .u8 f 2) := hdep ⟨18, .data⟩ (by simp) rfl 23 rfl
      rw [Vals.eval_tmp] at r23
      refine Vals.wpOp_run ho' rfl ?_
      clear hdep hfr ho' hdf
      go_simp
      exact hK _ _ (fun _ _ h => h) hJ (fun _ => congrArg Value.bool Hfi.out)
    | 20, ho, hd =>
      have ho' := ho
      simp only [List.getElem?_toArray, List.getElem?_cons_zero, List.getElem?_cons_succ, Option.some.injEq] at ho hd
      subst ho hd
      have r1 : a.eval (.tmp 1) = .pointer (some ⟨w.heap.size, 0, none⟩) := hfr 1 (by decide)
      rw [Vals.eval_tmp] at r1
      refine Vals.wpOp_run ho' rfl ?_
      clear hdep hfr ho' hdf
      go_simp
      exact hK _ _ (fun _ _ h => h) hJ (fun _ => rfl)
    | 21, ho, hd =>
      have ho' := ho
      simp only [List.getElem?_toArray, List.getElem?_cons_zero, List.getElem?_cons_succ, Option.some.injEq] at ho hd
      subst ho hd
      have r25 : a.eval (.tmp 25) = .pointer (some ⟨w.heap.size, 1, none⟩) := hdep ⟨20, .data⟩ (by simp) rfl 25 rfl
      rw [Vals.eval_tmp] at r25
      have c0 := (HC.out.keep hJ).cell (i := 1) rfl
      refine Vals.wpOp_run ho' rfl ?_
      clear hdep hfr ho' hdf
      go_simp
      exact hK _ _ (fun _ _ h => h) hJ (fun _ => rfl)
    | 22, ho, hd =>
      have ho' := ho
      simp only [List.getElem?_toArray, List.getElem?_cons_zero, List.getElem?_cons_succ, Option.some.injEq] at ho hd
      subst ho hd
      have r26 : a.eval (.tmp 26) = .int .u8 f := hdep ⟨21, .data⟩ (by simp) rfl 26 rfl
      rw [Vals.eval_tmp] at r26
      refine Vals.wpOp_run ho' rfl ?_
      clear hdep hfr ho' hdf
      go_simp
      exact hK _ _ (fun _ _ h => h) hJ (fun _ => rfl)
    | 23, ho, hd =>
      have ho' := ho
      simp only [List.getElem?_toArray, List.getElem?_cons_zero, List.getElem?_cons_succ, Option.some.injEq] at ho hd
      subst ho hd
      have r27 : a.eval (.tmp 27) = .int .u8 (bits .and .u8 f 1) := hdep ⟨22, .data⟩ (by simp) rfl 27 rfl
      rw [Vals.eval_tmp] at r27
      refine Vals.wpOp_run ho' rfl ?_
      clear hdep hfr ho' hdf
      go_simp
      exact hK _ _ (fun _ _ h => h) hJ (fun _ => congrArg Value.bool Hl.out)
    | 24, ho, hd =>
      have ho' := ho
      simp only [List.getElem?_toArray, List.getElem?_cons_zero, List.getElem?_cons_succ, Option.some.injEq] at ho hd
      subst ho hd
      have r8 : a.eval (.tmp 8) = .int .u32 x0 := hdep ⟨3, .data⟩ (by simp) rfl 8 rfl
      rw [Vals.eval_tmp] at r8
      have r12 : a.eval (.tmp 12) = .int .u16 x1 := hdep ⟨7, .data⟩ (by simp) rfl 12 rfl
      rw [Vals.eval_tmp] at r12
      have r16 : a.eval (.tmp 16) = .int .u16 x2 := hdep ⟨11, .data⟩ (by simp) rfl 16 rfl
      rw [Vals.eval_tmp] at r16
      have r20 : a.eval (.tmp 20) = .bool u := hdep ⟨15, .data⟩ (by simp) rfl 20 rfl
      rw [Vals.eval_tmp] at r20
      have r24 : a.eval (.tmp 24) = .bool fi := hdep ⟨19, .data⟩ (by simp) rfl 24 rfl
      rw [Vals.eval_tmp] at r24
      have r28 : a.eval (.tmp 28) = .bool l := hdep ⟨23, .data⟩ (by simp) rfl 28 rfl
      rw [Vals.eval_tmp] at r28
      refine Vals.wpOp_run ho' rfl ?_
      clear hdep hfr ho' hdf
      go_simp
      exact hK _ _ (fun _ _ h => h) hJ (fun _ => rfl)
    | 25, ho, hd =>
      have ho' := ho
      simp only [List.getElem?_toArray, List.getElem?_cons_zero, List.getElem?_cons_succ, Option.some.injEq] at ho hd
      subst ho hd
      refine Vals.wpOp_run ho' rfl ?_
      clear hdep hfr ho' hdf
      go_simp
      have hb3 : Below W.heap.size W (W.alloc (.cells #[.int .u32 0, .int .u16 0, .int .u16 0, .bool false, .bool false, .bool false, .slice none 0 0] 26)) := (Below.refl _ _).alloc (Nat.le_refl _) _
      exact hK _ _ (GDat_mono hb3) (hJ.trans (hb3.mono hJ.size)) (fun _ => ⟨_, rfl, hJ.size, arr_new _ _ _⟩)
    | i + 26, ho, hd => omega
  case fin =>
    intro W fq hJ hG
    have q0 : fq 5 = .pointer (some ⟨w.heap.size, 2, none⟩) := hG 0 5 rfl
    have q1 : fq 6 = .slice p n c := hG 1 6 rfl
    have q2 : fq 7 = .int .u64 x0 := hG 2 7 rfl
    have q3 : fq 8 = .int .u32 x0 := hG 3 8 rfl
    have q4 : fq 9 = .pointer (some ⟨w.heap.size, 2, none⟩) := hG 4 9 rfl
    have q5 : fq 10 = .slice p n c := hG 5 10 rfl
    have q6 : fq 11 = .int .u64 x1 := hG 6 11 rfl
    have q7 : fq 12 = .int .u16 x1 := hG 7 12 rfl
    have q8 : fq 13 = .pointer (some ⟨w.heap.size, 2, none⟩) := hG 8 13 rfl
    have q9 : fq 14 = .slice p n c := hG 9 14 rfl
    have q10 : fq 15 = .int .u64 x2 := hG 10 15 rfl
    have q11 : fq 16 = .int .u16 x2 := hG 11 16 rfl
    have q12 : fq 17 = .pointer (some ⟨w.heap.size, 1, none⟩) := hG 12 17 rfl
    have q13 : fq 18 = .int .u8 f := hG 13 18 rfl
    have q14 : fq 19 = .int .u8 (bits .and .u8 f 4) := hG 14 19 rfl
    have q15 : fq 20 = .bool u := hG 15 20 rfl
    have q16 : fq 21 = .pointer (some ⟨w.heap.size, 1, none⟩) := hG 16 21 rfl
    have q17 : fq 22 = .int .u8 f := hG 17 22 rfl
    have q18 : fq 23 = .int .u8 (bits .and .u8 f 2) := hG 18 23 rfl
    have q19 : fq 24 = .bool fi := hG 19 24 rfl
    have q20 : fq 25 = .pointer (some ⟨w.heap.size, 1, none⟩) := hG 20 25 rfl
    have q21 : fq 26 = .int .u8 f := hG 21 26 rfl
    have q22 : fq 27 = .int .u8 (bits .and .u8 f 1) := hG 22 27 rfl
    have q23 : fq 28 = .bool l := hG 23 28 rfl
    have q24 : fq 29 = .agg #[.int .u32 x0, .int .u16 x1, .int .u16 x2, .bool u, .bool fi, .bool l, .slice none 0 0] := hG 24 29 rfl
    obtain ⟨gn_4, q25, hq4_0, hq4_1⟩ : ∃ gn_4, fq 4 = .pointer (some ⟨gn_4, 0, none⟩) ∧ wE.heap.size ≤ gn_4 ∧ Arr W gn_4 26 [.int .u32 0, .int .u16 0, .int .u16 0, .bool false, .bool false, .bool false, .slice none 0 0] := hG 25 4 rfl
    clear hG
    refine Vals.wpOp_run rfl rfl ?_
    simp only [Vals.puts, Vals.pairs, List.filterMap_cons, List.filterMap_nil, id, List.map_cons, List.map_nil, List.foldl_cons, List.foldl_nil, q0, q1, q2, q3, q4, q5, q6, q7, q8, q9, q10, q11, q12, q13, q14, q15, q16, q17, q18, q19, q20, q21, q22, q23, q24, q25]
    clear q0 q1 q2 q3 q4 q5 q6 q7 q8 q9 q10 q11 q12 q13 q14 q15 q16 q17 q18 q19 q20 q21 q22 q23 q24 q25
    go_frame
    obtain ⟨W4, hW4⟩ : ∃ x, (((((((W.setCell ⟨gn_4, 0, none⟩ (.int .u32 x0)).setCell ⟨gn_4, 1, none⟩ (.int .u16 x1)).setCell ⟨gn_4, 2, none⟩ (.int .u16 x2)).setCell ⟨gn_4, 3, none⟩ (.bool u)).setCell ⟨gn_4, 4, none⟩ (.bool fi)).setCell ⟨gn_4, 5, none⟩ (.bool l)).setCell ⟨gn_4, 6, none⟩ (.slice none 0 0)) = x := ⟨_, rfl⟩
    have hA4 : Arr _ gn_4 26 [.int .u32 x0, .int .u16 x1, .int .u16 x2, .bool u, .bool fi, .bool l, .slice none 0 0] := (((((((hq4_1.set 0 (.int .u32 x0)).set 1 (.int .u16 x1)).set 2 (.int .u16 x2)).set 3 (.bool u)).set 4 (.bool fi)).set 5 (.bool l)).set 6 (.slice none 0 0))
    have hB4 := ((((((((hJ : Below wE.heap.size wE W).setCell (p := ⟨gn_4, 0, none⟩) hq4_0 (.int .u32 x0)).setCell (p := ⟨gn_4, 1, none⟩) hq4_0 (.int .u16 x1)).setCell (p := ⟨gn_4, 2, none⟩) hq4_0 (.int .u16 x2)).setCell (p := ⟨gn_4, 3, none⟩) hq4_0 (.bool u)).setCell (p := ⟨gn_4, 4, none⟩) hq4_0 (.bool fi)).setCell (p := ⟨gn_4, 5, none⟩) hq4_0 (.bool l)).setCell (p := ⟨gn_4, 6, none⟩) hq4_0 (.slice none 0 0))
    rw [hW4] at hA4 hB4
    have fr0 := hq4_1.free 0
    have fr1 := hq4_1.free 1
    have fr2 := hq4_1.free 2
    have fr3 := hq4_1.free 3
    have fr4 := hq4_1.free 4
    have fr5 := hq4_1.free 5
    have fr6 := hq4_1.free 6
    have y0 := hq4_1.cell (i := 0) rfl
    have y1 := hq4_1.cell (i := 1) rfl
    have y2 := hq4_1.cell (i := 2) rfl
    have y3 := hq4_1.cell (i := 3) rfl
    have y4 := hq4_1.cell (i := 4) rfl
    have y5 := hq4_1.cell (i := 5) rfl
    have y6 := hq4_1.cell (i := 6) rfl
    have HA4 := Lib.hid hA4
    have HB4 := Lib.hid hB4
    have HGN := Lib.hid hq4_0
    clear hJ hq4_1 hq4_0 hA4 hB4
    go_simp
    have cc0 := (HC.out.keep HB4.out).cell (i := 0) rfl
    have cc1 := (HC.out.keep HB4.out).cell (i := 1) rfl
    have cc2 := (HC.out.keep HB4.out).cell (i := 2) rfl
    clear fr0 fr1 fr2 fr3 fr4 fr5 fr6 y0 y1 y2 y3 y4 y5 y6
    have HCUT := Lib.hid (cut12 p n c zs W4 (HRW.out W4 HB4.out) hc hn)
    go_wp2_with fail
    refine HCUT.out.mono ?_
    rintro e w5 ⟨a5, c5, b5, rfl, hb5, hr5⟩
    have hA5 := HA4.out.keep hb5
    have hB5 := HB4.out.trans (hb5.mono HB4.out.size)
    have hlt5 : gn_4 < W4.heap.size := HA4.out.lt
    obtain ⟨w6, hw6⟩ : ∃ x, w5.setCell ⟨gn_4, 6, none⟩ (.slice a5 (n - 12) c5) = x := ⟨_, rfl⟩
    have hA6 : Arr _ gn_4 26 [.int .u32 x0, .int .u16 x1, .int .u16 x2, .bool u, .bool fi, .bool l, .slice a5 (n - 12) c5] := hA5.set 6 (.slice a5 (n - 12) c5)
    have hB6 := hB5.setCell (p := ⟨gn_4, 6, none⟩) HGN.out (.slice a5 (n - 12) c5)
    have hr6 := hr5.setAt hA5 (by decide) 6 (.slice a5 (n - 12) c5)
    rw [hw6] at hA6 hB6 hr6
    have fr6 := hA5.free 6
    have y6 := hA5.cell (i := 6) rfl
    have d0 := hA6.cell (i := 0) rfl
    have d1 := hA6.cell (i := 1) rfl
    have d2 := hA6.cell (i := 2) rfl
    have d3 := hA6.cell (i := 3) rfl
    have d4 := hA6.cell (i := 4) rfl
    have d5 := hA6.cell (i := 5) rfl
    have d6 := hA6.cell (i := 6) rfl
    have ce0 := (HC.out.keep hB6).cell (i := 0) rfl
    have ce1 := (HC.out.keep hB6).cell (i := 1) rfl
    have ce2 := (HC.out.keep hB6).cell (i := 2) rfl
    have hck := checkedData k f 0 (dflags u fi l) p n c zs (dataB x0 x1 x2 (zs.drop 12)) false x0 x1 x2 u fi l a5 (n - 12) c5 w6 (HRW.out w6 hB6) hz (dataB_byt _ _ _ (hz.drop 12)) (by omega) (by rw [dataB_len]; have := (HRW.out w6 hB6).1; simp; omega)
      (fun W h => pputData x0 x1 x2 u fi l a5 (n - 12) c5 (zs.drop 12) W (hr6.reads.below h) (by omega) lox0 hix0 lox1 hix1 lox2 hix2)
    have HCK := Lib.hid hck
    have H6 := Lib.hid (And.intro hB6 (And.intro hr6 (And.intro (HZ.out.keep hB6) (Nat.le_trans HBE.out.1.size HB4.out.size))))
    clear hck hb5 hr5 hA5 hB5 hlt5 hA6 hB6 hr6 HA4 HB4 HCUT cc0 cc1 cc2
    go_wp2_with fail
    refine HCK.out.mono ?_
    rintro e w7 ⟨hch, hb7⟩
    have hz7 := H6.out.2.2.1.keep hb7
    have hB7 := HBE.out.1.trans ((H6.out.1.trans (hb7.mono H6.out.1.size)).mono HBE.out.1.size)
    have hr7 := (H6.out.2.1.keep hb7).lower H6.out.2.2.2
    rcases hch with ⟨hch, rfl⟩ | ⟨hch, rfl⟩
    · obtain ⟨w8, hw8⟩ : ∃ x, (((((((w7.setCell ⟨(w.heap.size + 1), 0, none⟩ (.int .u32 x0)).setCell ⟨(w.heap.size + 1), 1, none⟩ (.int .u16 x1)).setCell ⟨(w.heap.size + 1), 2, none⟩ (.int .u16 x2)).setCell ⟨(w.heap.size + 1), 3, none⟩ (.bool u)).setCell ⟨(w.heap.size + 1), 4, none⟩ (.bool fi)).setCell ⟨(w.heap.size + 1), 5, none⟩ (.bool l)).setCell ⟨(w.heap.size + 1), 6, none⟩ (.slice a5 (n - 12) c5)) = x := ⟨_, rfl⟩
      have hA4 : Arr _ (w.heap.size + 1) 26 [.int .u32 x0, .int .u16 x1, .int .u16 x2, .bool u, .bool fi, .bool l, .slice a5 (n - 12) c5] := (((((((hz7.set 0 (.int .u32 x0)).set 1 (.int .u16 x1)).set 2 (.int .u16 x2)).set 3 (.bool u)).set 4 (.bool fi)).set 5 (.bool l)).set 6 (.slice a5 (n - 12) c5))
      have hB4 := (((((((hB7.setCell (p := ⟨(w.heap.size + 1), 0, none⟩) (by simp) (.int .u32 x0)).setCell (p := ⟨(w.heap.size + 1), 1, none⟩) (by simp) (.int .u16 x1)).setCell (p := ⟨(w.heap.size + 1), 2, none⟩) (by simp) (.int .u16 x2)).setCell (p := ⟨(w.heap.size + 1), 3, none⟩) (by simp) (.bool u)).setCell (p := ⟨(w.heap.size + 1), 4, none⟩) (by simp) (.bool fi)).setCell (p := ⟨(w.heap.size + 1), 5, none⟩) (by simp) (.bool l)).setCell (p := ⟨(w.heap.size + 1), 6, none⟩) (by simp) (.slice a5 (n - 12) c5))
      have hr74 := (((((((hr7.setAt hz7 (by decide) 0 (.int .u32 x0)).setAt (hz7.set 0 (.int .u32 x0)) (by decide) 1 (.int .u16 x1)).setAt ((hz7.set 0 (.int .u32 x0)).set 1 (.int .u16 x1)) (by decide) 2 (.int .u16 x2)).setAt (((hz7.set 0 (.int .u32 x0)).set 1 (.int .u16 x1)).set 2 (.int .u16 x2)) (by decide) 3 (.bool u)).setAt ((((hz7.set 0 (.int .u32 x0)).set 1 (.int .u16 x1)).set 2 (.int .u16 x2)).set 3 (.bool u)) (by decide) 4 (.bool fi)).setAt (((((hz7.set 0 (.int .u32 x0)).set 1 (.int .u16 x1)).set 2 (.int .u16 x2)).set 3 (.bool u)).set 4 (.bool fi)) (by decide) 5 (.bool l)).setAt ((((((hz7.set 0 (.int .u32 x0)).set 1 (.int .u16 x1)).set 2 (.int .u16 x2)).set 3 (.bool u)).set 4 (.bool fi)).set 5 (.bool l)) (by decide) 6 (.slice a5 (n - 12) c5))
      rw [hw8] at hA4 hB4 hr74
      have fs0 := hz7.free 0
      have fs1 := hz7.free 1
      have fs2 := hz7.free 2
      have fs3 := hz7.free 3
      have fs4 := hz7.free 4
      have fs5 := hz7.free 5
      have fs6 := hz7.free 6
      have yy0 := hz7.cell (i := 0) rfl
      have yy1 := hz7.cell (i := 1) rfl
      have yy2 := hz7.cell (i := 2) rfl
      have yy3 := hz7.cell (i := 3) rfl
      have yy4 := hz7.cell (i := 4) rfl
      have yy5 := hz7.cell (i := 5) rfl
      have yy6 := hz7.cell (i := 6) rfl
      have zz0 := hA4.cell (i := 0) rfl
      have zz1 := hA4.cell (i := 1) rfl
      have zz2 := hA4.cell (i := 2) rfl
      have zz3 := hA4.cell (i := 3) rfl
      have zz4 := hA4.cell (i := 4) rfl
      have zz5 := hA4.cell (i := 5) rfl
      have zz6 := hA4.cell (i := 6) rfl
      have HE := Lib.hid (And.intro hB4 (And.intro hr74 hch))
      clear hz7 hB7 hr7 hA4 hB4 hr74 hch HCK H6 HZ HBE HRW HC
      go_wp2
      exact bodyPost_ret (by simp [results, Try.results16, go_sem, zz0, zz1, zz2, zz3, zz4, zz5, zz6] <;> rfl) rfl ⟨a5, c5, .inl ⟨by have h := HE.out.2.2; simpa using h, rfl⟩, HE.out.1, HE.out.2.1⟩
    · obtain ⟨w8, hw8⟩ : ∃ x, (((((((w7.setCell ⟨(w.heap.size + 1), 0, none⟩ (.int .u32 0)).setCell ⟨(w.heap.size + 1), 1, none⟩ (.int .u16 0)).setCell ⟨(w.heap.size + 1), 2, none⟩ (.int .u16 0)).setCell ⟨(w.heap.size + 1), 3, none⟩ (.bool false)).setCell ⟨(w.heap.size + 1), 4, none⟩ (.bool false)).setCell ⟨(w.heap.size + 1), 5, none⟩ (.bool false)).setCell ⟨(w.heap.size + 1), 6, none⟩ (.slice none 0 0)) = x := ⟨_, rfl⟩
      have hA4 : Arr _ (w.heap.size + 1) 26 [.int .u32 0, .int .u16 0, .int .u16 0, .bool false, .bool false, .bool false, .slice none 0 0] := (((((((hz7.set 0 (.int .u32 0)).set 1 (.int .u16 0)).set 2 (.int .u16 0)).set 3 (.bool false)).set 4 (.bool false)).set 5 (.bool false)).set 6 (.slice none 0 0))
      have hB4 := (((((((hB7.setCell (p := ⟨(w.heap.size + 1), 0, none⟩) (by simp) (.int .u32 0)).setCell (p := ⟨(w.heap.size + 1), 1, none⟩) (by simp) (.int .u16 0)).setCell (p := ⟨(w.heap.size + 1), 2, none⟩) (by simp) (.int .u16 0)).setCell (p := ⟨(w.heap.size + 1), 3, none⟩) (by simp) (.bool false)).setCell (p := ⟨(w.heap.size + 1), 4, none⟩) (by simp) (.bool false)).setCell (p := ⟨(w.heap.size + 1), 5, none⟩) (by simp) (.bool false)).setCell (p := ⟨(w.heap.size + 1), 6, none⟩) (by simp) (.slice none 0 0))
      have hr74 := (((((((hr7.setAt hz7 (by decide) 0 (.int .u32 0)).setAt (hz7.set 0 (.int .u32 0)) (by decide) 1 (.int .u16 0)).setAt ((hz7.set 0 (.int .u32 0)).set 1 (.int .u16 0)) (by decide) 2 (.int .u16 0)).setAt (((hz7.set 0 (.int .u32 0)).set 1 (.int .u16 0)).set 2 (.int .u16 0)) (by decide) 3 (.bool false)).setAt ((((hz7.set 0 (.int .u32 0)).set 1 (.int .u16 0)).set 2 (.int .u16 0)).set 3 (.bool false)) (by decide) 4 (.bool false)).setAt (((((hz7.set 0 (.int .u32 0)).set 1 (.int .u16 0)).set 2 (.int .u16 0)).set 3 (.bool false)).set 4 (.bool false)) (by decide) 5 (.bool false)).setAt ((((((hz7.set 0 (.int .u32 0)).set 1 (.int .u16 0)).set 2 (.int .u16 0)).set 3 (.bool false)).set 4 (.bool false)).set 5 (.bool false)) (by decide) 6 (.slice none 0 0))
      rw [hw8] at hA4 hB4 hr74
      have fs0 := hz7.free 0
      have fs1 := hz7.free 1
      have fs2 := hz7.free 2
      have fs3 := hz7.free 3
      have fs4 := hz7.free 4
      have fs5 := hz7.free 5
      have fs6 := hz7.free 6
      have yy0 := hz7.cell (i := 0) rfl
      have yy1 := hz7.cell (i := 1) rfl
      have yy2 := hz7.cell (i := 2) rfl
      have yy3 := hz7.cell (i := 3) rfl
      have yy4 := hz7.cell (i := 4) rfl
      have yy5 := hz7.cell (i := 5) rfl
      have yy6 := hz7.cell (i := 6) rfl
      have zz0 := hA4.cell (i := 0) rfl
      have zz1 := hA4.cell (i := 1) rfl
      have zz2 := hA4.cell (i := 2) rfl
      have zz3 := hA4.cell (i := 3) rfl
      have zz4 := hA4.cell (i := 4) rfl
      have zz5 := hA4.cell (i := 5) rfl
      have zz6 := hA4.cell (i := 6) rfl
      have HE := Lib.hid (And.intro hB4 (And.intro hr74 hch))
      clear hz7 hB7 hr7 hA4 hB4 hr74 hch HCK H6 HZ HBE HRW HC
      go_wp2
      exact bodyPost_ret (by simp [results, Try.results16, go_sem, zz0, zz1, zz2, zz3, zz4, zz5, zz6] <;> rfl) rfl ⟨a5, c5, .inr ⟨by have h := HE.out.2.2; simpa using h, rfl⟩, HE.out.1, HE.out.2.1⟩

set_option maxRecDepth 100000 in
set_option maxHeartbeats 1600000 in
theorem rgetData_few (k f : Int) (p : Option Addr) (n c : Nat) (zs : List Int) (w : World) (hr : Reads w p n zs) (hz : Byt zs) (hc : n ≤ c) (hn : n ≤ 281474976) (x0 : Int) (hxx0 : natAt zs 0 4 = x0) (x1 : Int) (hxx1 : natAt zs 4 2 = x1) (x2 : Int) (hxx2 : natAt zs 6 2 = x2) (u : Bool) (hu : (bits .and .u8 f 4 != 0) = u) (fi : Bool) (hfi : (bits .and .u8 f 2 != 0) = fi) (l : Bool) (hl : (bits .and .u8 f 1 != 0) = l) (hm : n < 13) :
    Calls Try.prog 17 #[.agg #[.int .u8 k, .int .u8 f, .slice p n c]] w fun e w' => ∃ a1 c1, Chose false (.agg #[.int .u32 x0, .int .u16 x1, .int .u16 x2, .bool u, .bool fi, .bool l, .slice a1 (n - 12) c1]) (.agg #[.int .u32 0, .int .u16 0, .int .u16 0, .bool false, .bool false, .bool false, .slice none 0 0]) e ∧ Below w.heap.size w w' := by
  obtain ⟨wa, hwa⟩ : ∃ wa, w.alloc (.cells #[.int .u8 k, .int .u8 f, .slice p n c] 28) = wa := ⟨_, rfl⟩
  have hba : Below w.heap.size w wa := by rw [← hwa]; exact chunkBelow w k f _
  have hsa : wa.heap.size = w.heap.size + 1 := by rw [← hwa]; simp
  have hca : Arr wa w.heap.size 28 [.int .u8 k, .int .u8 f, .slice p n c] := by rw [← hwa]; exact chunkBox w k f _
  obtain ⟨wE, hwE⟩ : ∃ wE, wa.alloc (.cells #[.int .u32 0, .int .u16 0, .int .u16 0, .bool false, .bool false, .bool false, .slice none 0 0] 26) = wE := ⟨_, rfl⟩
  have hbE0 : Below wa.heap.size wa wE := by rw [← hwE]; exact (Below.refl _ _).alloc (Nat.le_refl _) _
  have hsE : wE.heap.size = w.heap.size + 2 := by rw [← hwE]; simp; omega
  have hzE : Arr wE (w.heap.size + 1) 26 [.int .u32 0, .int .u16 0, .int .u16 0, .bool false, .bool false, .bool false, .slice none 0 0] := by rw [← hwE, ← hsa]; exact arr_new _ _ _
  have hcE := hca.keep hbE0
  have hbE := hba.trans (hbE0.mono hba.size)
  have hr2 := hr.below hbE
  have hmi : (n : Int) < 13 := by omega
  have cc0 := hcE.cell (i := 0) rfl
  have cc1 := hcE.cell (i := 1) rfl
  have cc2 := hcE.cell (i := 2) rfl
  have fs0 := hzE.free 0
  have fs1 := hzE.free 1
  have fs2 := hzE.free 2
  have fs3 := hzE.free 3
  have fs4 := hzE.free 4
  have fs5 := hzE.free 5
  have fs6 := hzE.free 6
  have yy0 := hzE.cell (i := 0) rfl
  have yy1 := hzE.cell (i := 1) rfl
  have yy2 := hzE.cell (i := 2) rfl
  have yy3 := hzE.cell (i := 3) rfl
  have yy4 := hzE.cell (i := 4) rfl
  have yy5 := hzE.cell (i := 5) rfl
  have yy6 := hzE.cell (i := 6) rfl
  obtain ⟨w8, hw8⟩ : ∃ x, (((((((wE.setCell ⟨(w.heap.size + 1), 0, none⟩ (.int .u32 0)).setCell ⟨(w.heap.size + 1), 1, none⟩ (.int .u16 0)).setCell ⟨(w.heap.size + 1), 2, none⟩ (.int .u16 0)).setCell ⟨(w.heap.size + 1), 3, none⟩ (.bool false)).setCell ⟨(w.heap.size + 1), 4, none⟩ (.bool false)).setCell ⟨(w.heap.size + 1), 5, none⟩ (.bool false)).setCell ⟨(w.heap.size + 1), 6, none⟩ (.slice none 0 0)) = x := ⟨_, rfl⟩
  have hA4 : Arr _ (w.heap.size + 1) 26 [.int .u32 0, .int .u16 0, .int .u16 0, .bool false, .bool false, .bool false, .slice none 0 0] := (((((((hzE.set 0 (.int .u32 0)).set 1 (.int .u16 0)).set 2 (.int .u16 0)).set 3 (.bool false)).set 4 (.bool false)).set 5 (.bool false)).set 6 (.slice none 0 0))
  have hB4 := (((((((hbE.setCell (p := ⟨(w.heap.size + 1), 0, none⟩) (by simp) (.int .u32 0)).setCell (p := ⟨(w.heap.size + 1), 1, none⟩) (by simp) (.int .u16 0)).setCell (p := ⟨(w.heap.size + 1), 2, none⟩) (by simp) (.int .u16 0)).setCell (p := ⟨(w.heap.size + 1), 3, none⟩) (by simp) (.bool false)).setCell (p := ⟨(w.heap.size + 1), 4, none⟩) (by simp) (.bool false)).setCell (p := ⟨(w.heap.size + 1), 5, none⟩) (by simp) (.bool false)).setCell (p := ⟨(w.heap.size + 1), 6, none⟩) (by simp) (.slice none 0 0))
  rw [hw8] at hA4 hB4
  have zz0 := hA4.cell (i := 0) rfl
  have zz1 := hA4.cell (i := 1) rfl
  have zz2 := hA4.cell (i := 2) rfl
  have zz3 := hA4.cell (i := 3) rfl
  have zz4 := hA4.cell (i := 4) rfl
  have zz5 := hA4.cell (i := 5) rfl
  have zz6 := hA4.cell (i := 6) rfl
  have HE := Lib.hid hB4
  clear hba hca hbE0 hzE hcE hbE hr hr2 hxx0 hxx1 hxx2 hu hfi hl hA4 hB4
  go_enter Try.func17, Try.ntmps17
  go_wp2
  exact bodyPost_ret (by simp [results, Try.results17, go_sem, zz0, zz1, zz2, zz3, zz4, zz5, zz6] <;> rfl) rfl ⟨none, 0, .inr ⟨rfl, rfl⟩, HE.out⟩

/-- What the operations of the drawn region leave behind. -/
def GDatR (w wE : World) (k f x0 x1 x2 : Int) (u fi l : Bool) (p : Option Addr) (n c : Nat) (zs : List Int) (i : Nat) (v : Value) (W : World) : Prop := match i with | 0 => v = .pointer (some ⟨w.heap.size, 2, none⟩) | 1 => v = .slice p n c | 2 => v = .int .u64 x0 | 3 => v = .int .u32 x0 | 4 => v = .pointer (some ⟨w.heap.size, 2, none⟩) | 5 => v = .slice p n c | 6 => v = .int .u64 x1 | 7 => v = .int .u16 x1 | 8 => v = .pointer (some ⟨w.heap.size, 2, none⟩) | 9 => v = .slice p n c | 10 => v = .int .u64 x2 | 11 => v = .int .u16 x2 | 12 => v = .pointer (some ⟨w.heap.size, 1, none⟩) | 13 => v = .int .u8 f | 14 => v = .int .u8 (bits .and .u8 f 4) | 15 => v = .bool u | 16 => v = .pointer (some ⟨w.heap.size, 1, none⟩) | 17 => v = .int .u8 f | 18 => v = .int .u8 (bits .and .u8 f 2) | 19 => v = .bool fi | 20 => v = .pointer (some ⟨w.heap.size, 1, none⟩) | 21 => v = .int .u8 f | 22 => v = .int .u8 (bits .and .u8 f 1) | 23 => v = .bool l | 24 => v = .pointer (some ⟨w.heap.size, 2, none⟩) | 25 => v = .slice p n c | 26 => v = .slice (cutA p 12 c) (n - 12) (c - 12) | 27 => ∃ a9, v = .slice a9 (n - 12) (n - 12) ∧ Row8 wE.heap.size W a9 (n - 12) (n - 12) (zs.drop 12) | 28 => ∃ a9_37, v = .agg #[.int .u32 x0, .int .u16 x1, .int .u16 x2, .bool u, .bool fi, .bool l, .slice a9_37 (n - 12) (n - 12)] ∧ Row8 wE.heap.size W a9_37 (n - 12) (n - 12) (zs.drop 12) | 29 => ∃ gn, v = .pointer (some ⟨gn, 0, none⟩) ∧ wE.heap.size ≤ gn ∧ Arr W gn 26 [.int .u32 0, .int .u16 0, .int .u16 0, .bool false, .bool false, .bool false, .slice none 0 0] | _ => True
theorem GDatR_mono {w wE : World} {k f x0 x1 x2 : Int} {u fi l : Bool} {p : Option Addr} {n c : Nat} {zs : List Int} {W W' : World} (hb : Below W.heap.size W W') (j : Nat) (x : Value) (h : GDatR w wE k f x0 x1 x2 u fi l p n c zs j x W) : GDatR w wE k f x0 x1 x2 u fi l p n c zs j x W' := by
  unfold GDatR at h ⊢
  split at h <;> try exact h
  · obtain ⟨a9, e0, h0_0⟩ := h
    exact ⟨a9, e0, h0_0.keep hb⟩
  · obtain ⟨a9_37, e0, h0_0⟩ := h
    exact ⟨a9_37, e0, h0_0.keep hb⟩
  · obtain ⟨gn, e0, h0_0, h0_1⟩ := h
    exact ⟨gn, e0, h0_0, h0_1.keep hb⟩

/-- What the operations of the drawn region leave behind. -/
def GDatS (w : World) (gn : Nat) (k f x0 x1 x2 : Int) (u fi l : Bool) (p : Option Addr) (n c : Nat) (a8 : Option Addr) (zs : List Int) (bb : Bool) (i : Nat) (v : Value) (W : World) : Prop := match i with | 0 => v = .agg #[.int .u32 x0, .int .u16 x1, .int .u16 x2, .bool u, .bool fi, .bool l, .slice a8 (n - 12) (n - 12)] | 1 => ∃ a1 c1, v = .agg #[.int .u8 0, .int .u8 (dflags u fi l), .slice a1 (dataB x0 x1 x2 (zs.drop 12)).length c1] ∧ Reads W a1 (dataB x0 x1 x2 (zs.drop 12)).length (dataB x0 x1 x2 (zs.drop 12)) | 2 => v = .agg #[.int .u8 k, .int .u8 f, .slice p n c] | 3 => v = .bool bb | 4 => v = .bool (!bb) | _ => True
theorem GDatS_mono {w : World} {gn : Nat} {k f x0 x1 x2 : Int} {u fi l : Bool} {p : Option Addr} {n c : Nat} {a8 : Option Addr} {zs : List Int} {bb : Bool} {W W' : World} (hb : Below W.heap.size W W') (j : Nat) (x : Value) (h : GDatS w gn k f x0 x1 x2 u fi l p n c a8 zs bb j x W) : GDatS w gn k f x0 x1 x2 u fi l p n c a8 zs bb j x W' := by
  unfold GDatS at h ⊢
  split at h <;> try exact h
  · obtain ⟨a1, c1, e0, h0_0⟩ := h
    exact ⟨a1, c1, e0, h0_0.below hb⟩

set_option maxRecDepth 100000 in
set_option maxHeartbeats 1600000 in
theorem rgetData_more (k f : Int) (p : Option Addr) (n c : Nat) (zs : List Int) (w : World) (hr : Reads w p n zs) (hz : Byt zs) (hc : n ≤ c) (hn : n ≤ 281474976) (x0 : Int) (hxx0 : natAt zs 0 4 = x0) (x1 : Int) (hxx1 : natAt zs 4 2 = x1) (x2 : Int) (hxx2 : natAt zs 6 2 = x2) (u : Bool) (hu : (bits .and .u8 f 4 != 0) = u) (fi : Bool) (hfi : (bits .and .u8 f 2 != 0) = fi) (l : Bool) (hl : (bits .and .u8 f 1 != 0) = l) (hm : 13 ≤ n) :
    Calls Try.prog 17 #[.agg #[.int .u8 k, .int .u8 f, .slice p n c]] w fun e w' => ∃ a1 c1, Chose (eqC 0 (dflags u fi l) (dataB x0 x1 x2 (zs.drop 12)) k f zs) (.agg #[.int .u32 x0, .int .u16 x1, .int .u16 x2, .bool u, .bool fi, .bool l, .slice a1 (n - 12) c1]) (.agg #[.int .u32 0, .int .u16 0, .int .u16 0, .bool false, .bool false, .bool false, .slice none 0 0]) e ∧ Below w.heap.size w w' ∧ Row8 w.heap.size w' a1 (n - 12) c1 (zs.drop 12) := by
  have HNx0 := Lib.hid (show ∀ W, Reads W p n zs → Calls Try.prog 53 #[.slice p n c, .int .i64 0, .int .i64 4] W fun e w' => e = .returned (.int .u64 x0) ∧ Below W.heap.size W w' from fun W h => hxx0 ▸ numR_any p n c 0 4 zs W h hz hc (by omega) (by omega) rfl)
  obtain ⟨lox0, hix0⟩ : 0 ≤ x0 ∧ x0 < 4294967296 := hxx0 ▸ natAt4 hz 0
  have HNx1 := Lib.hid (show ∀ W, Reads W p n zs → Calls Try.prog 53 #[.slice p n c, .int .i64 4, .int .i64 2] W fun e w' => e = .returned (.int .u64 x1) ∧ Below W.heap.size W w' from fun W h => hxx1 ▸ numR_any p n c 4 2 zs W h hz hc (by omega) (by omega) rfl)
  obtain ⟨lox1, hix1⟩ : 0 ≤ x1 ∧ x1 < 65536 := hxx1 ▸ natAt2 hz 4
  have HNx2 := Lib.hid (show ∀ W, Reads W p n zs → Calls Try.prog 53 #[.slice p n c, .int .i64 6, .int .i64 2] W fun e w' => e = .returned (.int .u64 x2) ∧ Below W.heap.size W w' from fun W h => hxx2 ▸ numR_any p n c 6 2 zs W h hz hc (by omega) (by omega) rfl)
  obtain ⟨lox2, hix2⟩ : 0 ≤ x2 ∧ x2 < 65536 := hxx2 ▸ natAt2 hz 6
  have Hu := Lib.hid hu
  have Hfi := Lib.hid hfi
  have Hl := Lib.hid hl
  clear hu hfi hl
  obtain ⟨wa, hwa⟩ : ∃ wa, w.alloc (.cells #[.int .u8 k, .int .u8 f, .slice p n c] 28) = wa := ⟨_, rfl⟩
  have hba : Below w.heap.size w wa := by rw [← hwa]; exact chunkBelow w k f _
  have hsa : wa.heap.size = w.heap.size + 1 := by rw [← hwa]; simp
  have hca : Arr wa w.heap.size 28 [.int .u8 k, .int .u8 f, .slice p n c] := by rw [← hwa]; exact chunkBox w k f _
  obtain ⟨wE, hwE⟩ : ∃ wE, wa.alloc (.cells #[.int .u32 0, .int .u16 0, .int .u16 0, .bool false, .bool false, .bool false, .slice none 0 0] 26) = wE := ⟨_, rfl⟩
  have hbE0 : Below wa.heap.size wa wE := by rw [← hwE]; exact (Below.refl _ _).alloc (Nat.le_refl _) _
  have hsE : wE.heap.size = w.heap.size + 2 := by rw [← hwE]; simp; omega
  have hzE : Arr wE (w.heap.size + 1) 26 [.int .u32 0, .int .u16 0, .int .u16 0, .bool false, .bool false, .bool false, .slice none 0 0] := by rw [← hwE, ← hsa]; exact arr_new _ _ _
  have hcE := hca.keep hbE0
  have hbE := hba.trans (hbE0.mono hba.size)
  have hr2 := hr.below hbE
  obtain ⟨bb, hbb⟩ : ∃ bb, bb = eqC 0 (dflags u fi l) (dataB x0 x1 x2 (zs.drop 12)) k f zs := ⟨_, rfl⟩
  rw [← hbb]
  have HBB := Lib.hid hbb
  have hmi : ¬ (n : Int) < 13 := by omega
  have HRW := Lib.hid (show ∀ W, Below wE.heap.size wE W → Reads W p n zs from fun W h => hr2.below h)
  have HC := Lib.hid hcE
  have HZ := Lib.hid hzE
  have HBE := Lib.hid (And.intro hbE hsE)
  have HCP := Lib.hid (show ∀ W, Reads W p n zs → Calls Try.prog 54 #[.slice (cutA p 12 c) (n - 12) (c - 12)] W fun e w' => ∃ a', e = .returned (.slice a' (n - 12) (n - 12)) ∧ Below W.heap.size W w' ∧ Row8 W.heap.size w' a' (n - 12) (n - 12) (zs.drop 12) from by
    intro W h
    have h1 := reads_cut h 12 n (by omega) (by omega) hc
    rw [List.take_of_length_le (by simp [h.1])] at h1
    exact copyBytes_any _ _ _ _ W h1 (by omega))
  have cc0 := hcE.cell (i := 0) rfl
  have cc1 := hcE.cell (i := 1) rfl
  have cc2 := hcE.cell (i := 2) rfl
  clear hbb hba hca hbE0 hzE hcE hbE hr hr2 hxx0 hxx1 hxx2
  go_enter Try.func17, Try.ntmps17
  go_wp2_with fail
  clear cc0 cc1 cc2
  refine wp_region_any (by kernel_rfl) ?_
  refine Vals.wpAny_goodLast (GDatR w wE k f x0 x1 x2 u fi l p n c zs) (fun W => Below wE.heap.size wE W) [some 10, some 11, some 12, some 13, some 14, some 15, some 16, some 17, some 18, some 19, some 20, some 21, some 22, some 23, some 24, some 25, some 26, some 27, some 28, some 29, some 30, some 31, some 32, some 33, some 34, some 35, some 36, some 37, some 38, some 4, none] 30 46 _ _ rfl (by kernel_rfl) (by kernel_rfl) (by kernel_rfl) (by decide) rfl ?step ?fin (Below.refl _ _).drew
  case step =>
    intro i o d ho hd hiN a W hJ hdf hdep hfr K hK
    match i, ho, hd with
    | 0, ho, hd =>
      have ho' := ho
      simp only [List.getElem?_toArray, List.getElem?_cons_zero, Option.some.injEq] at ho hd
      subst ho hd
      have r1 : a.eval (.tmp 1) = .pointer (some ⟨w.heap.size, 0, none⟩) := hfr 1 (by decide)
      rw [Vals.eval_tmp] at r1
      refine Vals.wpOp_run ho' rfl ?_
      clear hdep hfr ho' hdf
      go_simp
      exact hK _ _ (fun _ _ h => h) hJ (fun _ => rfl)
    | 1, ho, hd =>
      have ho' := ho
      simp only [List.getElem?_toArray, List.getElem?_cons_zero, List.getElem?_cons_succ, Option.some.injEq] at ho hd
      subst ho hd
      have r10 : a.eval (.tmp 10) = .pointer (some ⟨w.heap.size, 2, none⟩) := hdep ⟨0, .data⟩ (by simp) rfl 10 rfl
      rw [Vals.eval_tmp] at r10
      have c0 := (HC.out.keep hJ).cell (i := 2) rfl
      refine Vals.wpOp_run ho' rfl ?_
      clear hdep hfr ho' hdf
      go_simp
      exact hK _ _ (fun _ _ h => h) hJ (fun _ => rfl)
    | 2, ho, hd =>
      have ho' := ho
      simp only [List.getElem?_toArray, List.getElem?_cons_zero, List.getElem?_cons_succ, Option.some.injEq] at ho hd
      subst ho hd
      have r11 : a.eval (.tmp 11) = .slice p n c := hdep ⟨1, .data⟩ (by simp) rfl 11 rfl
      rw [Vals.eval_tmp] at r11
      refine Vals.wpOp_run ho' rfl ?_
      clear hdep hfr ho' hdf
      go_simp
      refine (HNx0.out W (HRW.out W hJ)).mono ?_
      rintro e w' ⟨rfl, hb3⟩
      exact hK _ _ (GDatR_mono hb3) (hJ.trans (hb3.mono hJ.size)) (fun _ => rfl)
    | 3, ho, hd =>
      have ho' := ho
      simp only [List.getElem?_toArray, List.getElem?_cons_zero, List.getElem?_cons_succ, Option.some.injEq] at ho hd
      subst ho hd
      have r12 : a.eval (.tmp 12) = .int .u64 x0 := hdep ⟨2, .data⟩ (by simp) rfl 12 rfl
      rw [Vals.eval_tmp] at r12
      refine Vals.wpOp_run ho' rfl ?_
      clear hdep hfr ho' hdf
      go_simp
      exact hK _ _ (fun _ _ h => h) hJ (fun _ => (by first | rfl | exact congrArg (Value.int _) (Int.emod_eq_of_lt (by assumption) (by assumption))))
    | 4, ho, hd =>
      have ho' := ho
      simp only [List.getElem?_toArray, List.getElem?_cons_zero, List.getElem?_cons_succ, Option.some.injEq] at ho hd
      subst ho hd
      have r1 : a.eval (.tmp 1) = .pointer (some ⟨w.heap.size, 0, none⟩) := hfr 1 (by decide)
      rw [Vals.eval_tmp] at r1
      refine Vals.wpOp_run ho' rfl ?_
      clear hdep hfr ho' hdf
      go_simp
      exact hK _ _ (fun _ _ h => h) hJ (fun _ => rfl)
    | 5, ho, hd =>
      have ho' := ho
      simp only [List.getElem?_toArray, List.getElem?_cons_zero, List.getElem?_cons_succ, Option.some.injEq] at ho hd
      subst ho hd
      have r14 : a.eval (.tmp 14) = .pointer (some ⟨w.heap.size, 2, none⟩) := hdep ⟨4, .data⟩ (by simp) rfl 14 rfl
      rw [Vals.eval_tmp] at r14
      have c0 := (HC.out.keep hJ).cell (i := 2) rfl
      refine Vals.wpOp_run ho' rfl ?_
      clear hdep hfr ho' hdf
      go_simp
      exact hK _ _ (fun _ _ h => h) hJ (fun _ => rfl)
    | 6, ho, hd =>
      have ho' := ho
      simp only [List.getElem?_toArray, List.getElem?_cons_zero, List.getElem?_cons_succ, Option.some.injEq] at ho hd
      subst ho hd
      have r15 : a.eval (.tmp 15) = .slice p n c := hdep ⟨5, .data⟩ (by simp) rfl 15 rfl
      rw [Vals.eval_tmp] at r15
      refine Vals.wpOp_run ho' rfl ?_
      clear hdep hfr ho' hdf
      go_simp
      refine (HNx1.out W (HRW.out W hJ)).mono ?_
      rintro e w' ⟨rfl, hb3⟩
      exact hK _ _ (GDatR_mono hb3) (hJ.trans (hb3.mono hJ.size)) (fun _ => rfl)
    | 7, ho, hd =>
      have ho' := ho
      simp only [List.getElem?_toArray, List.getElem?_cons_zero, List.getElem?_cons_succ, Option.some.injEq] at ho hd
      subst ho hd
      have r16 : a.eval (.tmp 16) = .int .u64 x1 := hdep ⟨6, .data⟩ (by simp) rfl 16 rfl
      rw [Vals.eval_tmp] at r16
      refine Vals.wpOp_run ho' rfl ?_
      clear hdep hfr ho' hdf
      go_simp
      exact hK _ _ (fun _ _ h => h) hJ (fun _ => (by first | rfl | exact congrArg (Value.int _) (Int.emod_eq_of_lt (by assumption) (by assumption))))
    | 8, ho, hd =>
      have ho' := ho
      simp only [List.getElem?_toArray, List.getElem?_cons_zero, List.getElem?_cons_succ, Option.some.injEq] at ho hd
      subst ho hd
      have r1 : a.eval (.tmp 1) = .pointer (some ⟨w.heap.size, 0, none⟩) := hfr 1 (by decide)
      rw [Vals.eval_tmp] at r1
      refine Vals.wpOp_run ho' rfl ?_
      clear hdep hfr ho' hdf
      go_simp
      exact hK _ _ (fun _ _ h => h) hJ (fun _ => rfl)
    | 9, ho, hd =>
      have ho' := ho
      simp only [List.getElem?_toArray, List.getElem?_cons_zero, List.getElem?_cons_succ, Option.some.injEq] at ho hd
      subst ho hd
      have r18 : a.eval (.tmp 18) = .pointer (some ⟨w.heap.size, 2, none⟩) := hdep ⟨8, .data⟩ (by simp) rfl 18 rfl
      rw [Vals.eval_tmp] at r18
      have c0 := (HC.out.keep hJ).cell (i := 2) rfl
      refine Vals.wpOp_run ho' rfl ?_
      clear hdep hfr ho' hdf
      go_simp
      exact hK _ _ (fun _ _ h => h) hJ (fun _ => rfl)
    | 10, ho, hd =>
      have ho' := ho
      simp only [List.getElem?_toArray, List.getElem?_cons_zero, List.getElem?_cons_succ, Option.some.injEq] at ho hd
      subst ho hd
      have r19 : a.eval (.tmp 19) = .slice p n c := hdep ⟨9, .data⟩ (by simp) rfl 19 rfl
      rw [Vals.eval_tmp] at r19
      refine Vals.wpOp_run ho' rfl ?_
      clear hdep hfr ho' hdf
      go_simp
      refine (HNx2.out W (HRW.out W hJ)).mono ?_
      rintro e w' ⟨rfl, hb3⟩
      exact hK _ _ (GDatR_mono hb3) (hJ.trans (hb3.mono hJ.size)) (fun _ => rfl)
    | 11, ho, hd =>
      have ho' := ho
      simp only [List.getElem?_toArray, List.getElem?_cons_zero, List.getElem?_cons_succ, Option.some.injEq] at ho hd
      subst ho hd
      have r20 : a.eval (.tmp 20) = .int .u64 x2 := hdep ⟨10, .data⟩ (by simp) rfl 20 rfl
      rw [Vals.eval_tmp] at r20
      refine Vals.wpOp_run ho' rfl ?_
      clear hdep hfr ho' hdf
      go_simp
      exact hK _ _ (fun _ _ h => h) hJ (fun _ => (by first | rfl | exact congrArg (Value.int _) (Int.emod_eq_of_lt (by assumption) (by assumption))))
    | 12, ho, hd =>
      have ho' := ho
      simp only [List.getElem?_toArray, List.getElem?_cons_zero, List.getElem?_cons_succ, Option.some.injEq] at ho hd
      subst ho hd
      have r1 : a.eval (.tmp 1) = .pointer (some ⟨w.heap.size, 0, none⟩) := hfr 1 (by decide)
      rw [Vals.eval_tmp] at r1
      refine Vals.wpOp_run ho' rfl ?_
      clear hdep hfr ho' hdf
      go_simp
      exact hK _ _ (fun _ _ h => h) hJ (fun _ => rfl)
    | 13, ho, hd =>
      have ho' := ho
      simp only [List.getElem?_toArray, List.getElem?_cons_zero, List.getElem?_cons_succ, Option.some.injEq] at ho hd
      subst ho hd
      have r22 : a.eval (.tmp 22) = .pointer (some ⟨w.heap.size, 1, none⟩) := hdep ⟨12, .data⟩ (by simp) rfl 22 rfl
      rw [Vals.eval_tmp] at r22
      have c0 := (HC.out.keep hJ).cell (i := 1) rfl
      refine Vals.wpOp_run ho' rfl ?_
      clear hdep hfr ho' hdf
      go_simp
      exact hK _ _ (fun _ _ h => h) hJ (fun _ => rfl)
    | 14, ho, hd =>
      have ho' := ho
      simp only [List.getElem?_toArray, List.getElem?_cons_zero, List.getElem?_cons_succ, Option.some.injEq] at ho hd
      subst ho hd
      have r23 : a.eval (.tmp 23) = .int .u8 f := hdep ⟨13, .data⟩ (by simp) rfl 23 rfl
      rw [Vals.eval_tmp] at r23
      refine Vals.wpOp_run ho' rfl ?_
      clear hdep hfr ho' hdf
      go_simp
      exact hK _ _ (fun _ _ h => h) hJ (fun _ => rfl)
    | 15, ho, hd =>
      have ho' := ho
      simp only [List.getElem?_toArray, List.getElem?_cons_zero, List.getElem?_cons_succ, Option.some.injEq] at ho hd
      subst ho hd
      have r24 : a.eval (.tmp 24) = .int .u8 (bits .and .u8 f 4) := hdep ⟨14, .data⟩ (by simp) rfl 24 rfl
      rw [Vals.eval_tmp] at r24
      refine Vals.wpOp_run ho' rfl ?_
      clear hdep hfr ho' hdf
      go_simp
      exact hK _ _ (fun _ _ h => h) hJ (fun _ => congrArg Value.bool Hu.out)
    | 16, ho, hd =>
      have ho' := ho
      simp only [List.getElem?_toArray, List.getElem?_cons_zero, List.getElem?_cons_succ, Option.some.injEq] at ho hd
      subst ho hd
      have r1 : a.eval (.tmp 1) = .pointer (some ⟨w.heap.size, 0, none⟩) := hfr 1 (by decide)
      rw [Vals.eval_tmp] at r1
      refine Vals.wpOp_run ho' rfl ?_
      clear hdep hfr ho' hdf
      go_simp
      exact hK _ _ (fun _ _ h => h) hJ (fun _ => rfl)
    | 17, ho, hd =>
      have ho' := ho
      simp only [List.getElem?_toArray, List.getElem?_cons_zero, List.getElem?_cons_succ, Option.some.injEq] at ho hd
      subst ho hd
      have r26 : a.eval (.tmp 26) = .pointer (some ⟨w.heap.size, 1, none⟩) := hdep ⟨16, .data⟩ (by simp) rfl 26 rfl
      rw [Vals.eval_tmp] at r26
      have c0 := (HC.out.keep hJ).cell (i := 1) rfl
      refine Vals.wpOp_run ho' rfl ?_
      clear hdep hfr ho' hdf
      go_simp
      exact hK _ _ (fun _ _ h => h) hJ (fun _ => rfl)
    | 18, ho, hd =>
      have ho' := ho
      simp only [List.getElem?_toArray, List.getElem?_cons_zero, List.getElem?_cons_succ, Option.some.injEq] at ho hd
      subst ho hd
      have r27 : a.eval (.tmp 27) = .int .u8 f := hdep ⟨17, .data⟩ (by simp) rfl 27 rfl
      rw [Vals.eval_tmp] at r27
      refine Vals.wpOp_run ho' rfl ?_
      clear hdep hfr ho' hdf
      go_simp
      exact hK _ _ (fun _ _ h => h) hJ (fun _ => rfl)
    | 19, ho, hd =>
      have ho' := ho
      simp only [List.getElem?_toArray, List.getElem?_cons_zero, List.getElem?_cons_succ, Option.some.injEq] at ho hd
      subst ho hd
      have r28 : a.eval (.tmp 28) = .int .u8 (bits .and .u8 f 2) := hdep ⟨18, .data⟩ (by simp) rfl 28 rfl
      rw [Vals.eval_tmp] at r28
      refine Vals.wpOp_run ho' rfl ?_
      clear hdep hfr ho' hdf
      go_simp
      exact hK _ _ (fun _ _ h => h) hJ (fun _ => congrArg Value.bool Hfi.out)
    | 20, ho, hd =>
      have ho' := ho
      simp only [List.getElem?_toArray, List.getElem?_cons_zero, List.getElem?_cons_succ, Option.some.injEq] at ho hd
      subst ho hd
      have r1 : a.eval (.tmp 1) = .pointer (some ⟨w.heap.size, 0, none⟩) := hfr 1 (by decide)
      rw [Vals.eval_tmp] at r1
      refine Vals.wpOp_run ho' rfl ?_
      clear hdep hfr ho' hdf
      go_simp
      exact hK _ _ (fun _ _ h => h) hJ (fun _ => rfl)
    | 21, ho, hd =>
      have ho' := ho
      simp only [List.getElem?_toArray, List.getElem?_cons_zero, List.getElem?_cons_succ, Option.some.injEq] at ho hd
      subst ho hd
      have r30 : a.eval (.tmp 30) = .pointer (some ⟨w.heap.size, 1, none⟩) := hdep ⟨20, .data⟩ (by simp) rfl 30 rfl
      rw [Vals.eval_tmp] at r30
      have c0 := (HC.out.keep hJ).cell (i := 1) rfl
      refine Vals.wpOp_run ho' rfl ?_
      clear hdep hfr ho' hdf
      go_simp
      exact hK _ _ (fun _ _ h => h) hJ (fun _ => rfl)
    | 22, ho, hd =>
      have ho' := ho
      simp only [List.getElem?_toArray, List.getElem?_cons_zero, List.getElem?_cons_succ, Option.some.injEq] at ho hd
      subst ho hd
      have r31 : a.eval (.tmp 31) = .int .u8 f := hdep ⟨21, .data⟩ (by simp) rfl 31 rfl
      rw [Vals.eval_tmp] at r31
      refine Vals.wpOp_run ho' rfl ?_
      clear hdep hfr ho' hdf
      go_simp
      exact hK _ _ (fun _ _ h => h) hJ (fun _ => rfl)
    | 23, ho, hd =>
      have ho' := ho
      simp only [List.getElem?_toArray, List.getElem?_cons_zero, List.getElem?_cons_succ, Option.some.injEq] at ho hd
      subst ho hd
      have r32 : a.eval (.tmp 32) = .int .u8 (bits .and .u8 f 1) := hdep ⟨22, .data⟩ (by simp) rfl 32 rfl
      rw [Vals.eval_tmp] at r32
      refine Vals.wpOp_run ho' rfl ?_
      clear hdep hfr ho' hdf
      go_simp
      exact hK _ _ (fun _ _ h => h) hJ (fun _ => congrArg Value.bool Hl.out)
    | 24, ho, hd =>
      have ho' := ho
      simp only [List.getElem?_toArray, List.getElem?_cons_zero, List.getElem?_cons_succ, Option.some.injEq] at ho hd
      subst ho hd
      have r1 : a.eval (.tmp 1) = .pointer (some ⟨w.heap.size, 0, none⟩) := hfr 1 (by decide)
      rw [Vals.eval_tmp] at r1
      refine Vals.wpOp_run ho' rfl ?_
      clear hdep hfr ho' hdf
      go_simp
      exact hK _ _ (fun _ _ h => h) hJ (fun _ => rfl)
    | 25, ho, hd =>
      have ho' := ho
      simp only [List.getElem?_toArray, List.getElem?_cons_zero, List.getElem?_cons_succ, Option.some.injEq] at ho hd
      subst ho hd
      have r34 : a.eval (.tmp 34) = .pointer (some ⟨w.heap.size, 2, none⟩) := hdep ⟨24, .data⟩ (by simp) rfl 34 rfl
      rw [Vals.eval_tmp] at r34
      have c0 := (HC.out.keep hJ).cell (i := 2) rfl
      refine Vals.wpOp_run ho' rfl ?_
      clear hdep hfr ho' hdf
      go_simp
      exact hK _ _ (fun _ _ h => h) hJ (fun _ => rfl)
    | 26, ho, hd =>
      have ho' := ho
      simp only [List.getElem?_toArray, List.getElem?_cons_zero, List.getElem?_cons_succ, Option.some.injEq] at ho hd
      subst ho hd
      have r35 : a.eval (.tmp 35) = .slice p n c := hdep ⟨25, .data⟩ (by simp) rfl 35 rfl
      rw [Vals.eval_tmp] at r35
      have hcut := cut_l p n c 12 (by omega) W
      rw [show ((12 : Nat) : Int) = 12 from rfl] at hcut
      refine Vals.wpOp_run ho' rfl ?_
      clear hdep hfr ho' hdf
      go_simp
      exact hK _ _ (fun _ _ h => h) hJ (fun _ => rfl)
    | 27, ho, hd =>
      have ho' := ho
      simp only [List.getElem?_toArray, List.getElem?_cons_zero, List.getElem?_cons_succ, Option.some.injEq] at ho hd
      subst ho hd
      have r36 : a.eval (.tmp 36) = .slice (cutA p 12 c) (n - 12) (c - 12) := hdep ⟨26, .data⟩ (by simp) rfl 36 rfl
      rw [Vals.eval_tmp] at r36
      refine Vals.wpOp_run ho' rfl ?_
      clear hdep hfr ho' hdf
      go_simp
      refine (HCP.out W (HRW.out W hJ)).mono ?_
      rintro e w' ⟨a9, rfl, hb3, hr3⟩
      exact hK _ _ (GDatR_mono hb3) (hJ.trans (hb3.mono hJ.size)) (fun _ => ⟨_, rfl, hr3.lower hJ.size⟩)
    | 28, ho, hd =>
      have ho' := ho
      simp only [List.getElem?_toArray, List.getElem?_cons_zero, List.getElem?_cons_succ, Option.some.injEq] at ho hd
      subst ho hd
      have r13 : a.eval (.tmp 13) = .int .u32 x0 := hdep ⟨3, .data⟩ (by simp) rfl 13 rfl
      rw [Vals.eval_tmp] at r13
      have r17 : a.eval (.tmp 17) = .int .u16 x1 := hdep ⟨7, .data⟩ (by simp) rfl 17 rfl
      rw [Vals.eval_tmp] at r17
      have r21 : a.eval (.tmp 21) = .int .u16 x2 := hdep ⟨11, .data⟩ (by simp) rfl 21 rfl
      rw [Vals.eval_tmp] at r21
      have r25 : a.eval (.tmp 25) = .bool u := hdep ⟨15, .data⟩ (by simp) rfl 25 rfl
      rw [Vals.eval_tmp] at r25
      have r29 : a.eval (.tmp 29) = .bool fi := hdep ⟨19, .data⟩ (by simp) rfl 29 rfl
      rw [Vals.eval_tmp] at r29
      have r33 : a.eval (.tmp 33) = .bool l := hdep ⟨23, .data⟩ (by simp) rfl 33 rfl
      rw [Vals.eval_tmp] at r33
      have g37 : ∃ a9_37, a.eval (.tmp 37) = .slice a9_37 (n - 12) (n - 12) ∧ Row8 wE.heap.size W a9_37 (n - 12) (n - 12) (zs.drop 12) := hdep ⟨27, .data⟩ (by simp) rfl 37 rfl
      rw [Vals.eval_tmp] at g37
      obtain ⟨a9_37, r37, h37_0⟩ := g37
      refine Vals.wpOp_run ho' rfl ?_
      clear hdep hfr ho' hdf
      go_simp
      exact hK _ _ (fun _ _ h => h) hJ (fun _ => ⟨_, rfl, h37_0⟩)
    | 29, ho, hd =>
      have ho' := ho
      simp only [List.getElem?_toArray, List.getElem?_cons_zero, List.getElem?_cons_succ, Option.some.injEq] at ho hd
      subst ho hd
      refine Vals.wpOp_run ho' rfl ?_
      clear hdep hfr ho' hdf
      go_simp
      have hb3 : Below W.heap.size W (W.alloc (.cells #[.int .u32 0, .int .u16 0, .int .u16 0, .bool false, .bool false, .bool false, .slice none 0 0] 26)) := (Below.refl _ _).alloc (Nat.le_refl _) _
      exact hK _ _ (GDatR_mono hb3) (hJ.trans (hb3.mono hJ.size)) (fun _ => ⟨_, rfl, hJ.size, arr_new _ _ _⟩)
    | i + 30, ho, hd => omega
  case fin =>
    intro W fq hJ hG
    have q0 : fq 10 = .pointer (some ⟨w.heap.size, 2, none⟩) := hG 0 10 rfl
    have q1 : fq 11 = .slice p n c := hG 1 11 rfl
    have q2 : fq 12 = .int .u64 x0 := hG 2 12 rfl
    have q3 : fq 13 = .int .u32 x0 := hG 3 13 rfl
    have q4 : fq 14 = .pointer (some ⟨w.heap.size, 2, none⟩) := hG 4 14 rfl
    have q5 : fq 15 = .slice p n c := hG 5 15 rfl
    have q6 : fq 16 = .int .u64 x1 := hG 6 16 rfl
    have q7 : fq 17 = .int .u16 x1 := hG 7 17 rfl
    have q8 : fq 18 = .pointer (some ⟨w.heap.size, 2, none⟩) := hG 8 18 rfl
    have q9 : fq 19 = .slice p n c := hG 9 19 rfl
    have q10 : fq 20 = .int .u64 x2 := hG 10 20 rfl
    have q11 : fq 21 = .int .u16 x2 := hG 11 21 rfl
    have q12 : fq 22 = .pointer (some ⟨w.heap.size, 1, none⟩) := hG 12 22 rfl
    have q13 : fq 23 = .int .u8 f := hG 13 23 rfl
    have q14 : fq 24 = .int .u8 (bits .and .u8 f 4) := hG 14 24 rfl
    have q15 : fq 25 = .bool u := hG 15 25 rfl
    have q16 : fq 26 = .pointer (some ⟨w.heap.size, 1, none⟩) := hG 16 26 rfl
    have q17 : fq 27 = .int .u8 f := hG 17 27 rfl
    have q18 : fq 28 = .int .u8 (bits .and .u8 f 2) := hG 18 28 rfl
    have q19 : fq 29 = .bool fi := hG 19 29 rfl
    have q20 : fq 30 = .pointer (some ⟨w.heap.size, 1, none⟩) := hG 20 30 rfl
    have q21 : fq 31 = .int .u8 f := hG 21 31 rfl
    have q22 : fq 32 = .int .u8 (bits .and .u8 f 1) := hG 22 32 rfl
    have q23 : fq 33 = .bool l := hG 23 33 rfl
    have q24 : fq 34 = .pointer (some ⟨w.heap.size, 2, none⟩) := hG 24 34 rfl
    have q25 : fq 35 = .slice p n c := hG 25 35 rfl
    have q26 : fq 36 = .slice (cutA p 12 c) (n - 12) (c - 12) := hG 26 36 rfl
    obtain ⟨a9_37, q27, hq37_0⟩ : ∃ a9_37, fq 37 = .slice a9_37 (n - 12) (n - 12) ∧ Row8 wE.heap.size W a9_37 (n - 12) (n - 12) (zs.drop 12) := hG 27 37 rfl
    obtain ⟨a9_38, q28, hq38_0⟩ : ∃ a9_38, fq 38 = .agg #[.int .u32 x0, .int .u16 x1, .int .u16 x2, .bool u, .bool fi, .bool l, .slice a9_38 (n - 12) (n - 12)] ∧ Row8 wE.heap.size W a9_38 (n - 12) (n - 12) (zs.drop 12) := hG 28 38 rfl
    obtain ⟨gn_4, q29, hq4_0, hq4_1⟩ : ∃ gn_4, fq 4 = .pointer (some ⟨gn_4, 0, none⟩) ∧ wE.heap.size ≤ gn_4 ∧ Arr W gn_4 26 [.int .u32 0, .int .u16 0, .int .u16 0, .bool false, .bool false, .bool false, .slice none 0 0] := hG 29 4 rfl
    clear hG
    refine Vals.wpOp_run rfl rfl ?_
    simp only [Vals.puts, Vals.pairs, List.filterMap_cons, List.filterMap_nil, id, List.map_cons, List.map_nil, List.foldl_cons, List.foldl_nil, q0, q1, q2, q3, q4, q5, q6, q7, q8, q9, q10, q11, q12, q13, q14, q15, q16, q17, q18, q19, q20, q21, q22, q23, q24, q25, q26, q27, q28, q29]
    clear q0 q1 q2 q3 q4 q5 q6 q7 q8 q9 q10 q11 q12 q13 q14 q15 q16 q17 q18 q19 q20 q21 q22 q23 q24 q25 q26 q27 q28 q29
    go_frame
    have hrw := hq38_0
    obtain ⟨W4, hW4⟩ : ∃ x, (((((((W.setCell ⟨gn_4, 0, none⟩ (.int .u32 x0)).setCell ⟨gn_4, 1, none⟩ (.int .u16 x1)).setCell ⟨gn_4, 2, none⟩ (.int .u16 x2)).setCell ⟨gn_4, 3, none⟩ (.bool u)).setCell ⟨gn_4, 4, none⟩ (.bool fi)).setCell ⟨gn_4, 5, none⟩ (.bool l)).setCell ⟨gn_4, 6, none⟩ (.slice a9_38 (n - 12) (n - 12))) = x := ⟨_, rfl⟩
    have hA4 : Arr _ gn_4 26 [.int .u32 x0, .int .u16 x1, .int .u16 x2, .bool u, .bool fi, .bool l, .slice a9_38 (n - 12) (n - 12)] := (((((((hq4_1.set 0 (.int .u32 x0)).set 1 (.int .u16 x1)).set 2 (.int .u16 x2)).set 3 (.bool u)).set 4 (.bool fi)).set 5 (.bool l)).set 6 (.slice a9_38 (n - 12) (n - 12)))
    have hB4 := ((((((((hJ : Below wE.heap.size wE W).setCell (p := ⟨gn_4, 0, none⟩) hq4_0 (.int .u32 x0)).setCell (p := ⟨gn_4, 1, none⟩) hq4_0 (.int .u16 x1)).setCell (p := ⟨gn_4, 2, none⟩) hq4_0 (.int .u16 x2)).setCell (p := ⟨gn_4, 3, none⟩) hq4_0 (.bool u)).setCell (p := ⟨gn_4, 4, none⟩) hq4_0 (.bool fi)).setCell (p := ⟨gn_4, 5, none⟩) hq4_0 (.bool l)).setCell (p := ⟨gn_4, 6, none⟩) hq4_0 (.slice a9_38 (n - 12) (n - 12)))
    have hrw4 := (((((((hrw.setAt hq4_1 (by decide) 0 (.int .u32 x0)).setAt (hq4_1.set 0 (.int .u32 x0)) (by decide) 1 (.int .u16 x1)).setAt ((hq4_1.set 0 (.int .u32 x0)).set 1 (.int .u16 x1)) (by decide) 2 (.int .u16 x2)).setAt (((hq4_1.set 0 (.int .u32 x0)).set 1 (.int .u16 x1)).set 2 (.int .u16 x2)) (by decide) 3 (.bool u)).setAt ((((hq4_1.set 0 (.int .u32 x0)).set 1 (.int .u16 x1)).set 2 (.int .u16 x2)).set 3 (.bool u)) (by decide) 4 (.bool fi)).setAt (((((hq4_1.set 0 (.int .u32 x0)).set 1 (.int .u16 x1)).set 2 (.int .u16 x2)).set 3 (.bool u)).set 4 (.bool fi)) (by decide) 5 (.bool l)).setAt ((((((hq4_1.set 0 (.int .u32 x0)).set 1 (.int .u16 x1)).set 2 (.int .u16 x2)).set 3 (.bool u)).set 4 (.bool fi)).set 5 (.bool l)) (by decide) 6 (.slice a9_38 (n - 12) (n - 12)))
    rw [hW4] at hA4 hB4 hrw4
    have fr0 := hq4_1.free 0
    have fr1 := hq4_1.free 1
    have fr2 := hq4_1.free 2
    have fr3 := hq4_1.free 3
    have fr4 := hq4_1.free 4
    have fr5 := hq4_1.free 5
    have fr6 := hq4_1.free 6
    have y0 := hq4_1.cell (i := 0) rfl
    have y1 := hq4_1.cell (i := 1) rfl
    have y2 := hq4_1.cell (i := 2) rfl
    have y3 := hq4_1.cell (i := 3) rfl
    have y4 := hq4_1.cell (i := 4) rfl
    have y5 := hq4_1.cell (i := 5) rfl
    have y6 := hq4_1.cell (i := 6) rfl
    have HA4 := Lib.hid hA4
    have HB4 := Lib.hid hB4
    have HR4 := Lib.hid hrw4
    have HGN := Lib.hid hq4_0
    clear hJ hq4_1 hq4_0 hA4 hB4 hrw hrw4 hq37_0 hq38_0
    go_simp
    clear fr0 fr1 fr2 fr3 fr4 fr5 fr6 y0 y1 y2 y3 y4 y5 y6
    have HC4 := Lib.hid (HC.out.keep HB4.out)
    have HZ4 := Lib.hid (HZ.out.keep HB4.out)
    have HX := Lib.hid (show ∀ W, Below W4.heap.size W4 W → Below W4.heap.size W4 W from fun _ h => h)
    have HRW' := Lib.hid (show ∀ W, Below W4.heap.size W4 W → Reads W p n zs from fun W h => HRW.out W (HB4.out.trans (h.mono HB4.out.size)))
    clear HRW
    have HRW := HRW'
    clear HRW' HC HZ hW4
    go_wp2_with fail
    refine wp_region_any (by kernel_rfl) ?_
    refine Vals.wpAny_goodW (GDatS w gn_4 k f x0 x1 x2 u fi l p n c a9_38 zs bb) (fun _ => (fun W => Below W4.heap.size W4 W)) [some 39, some 40, some 41, some 42, some 43] 46 _ _ rfl (by kernel_rfl) (by kernel_rfl) (by decide) ?step2 ?fin2 (Below.refl _ _).drew
    case step2 =>
      intro i o d ho hd listed a W hls hun hcl hJ hdf hdep hfr K hK
      match i, ho, hd with
      | 0, ho, hd =>
        have ho' := ho
        simp only [List.getElem?_toArray, List.getElem?_cons_zero, Option.some.injEq] at ho hd
        subst ho hd
        have r4 : a.eval (.tmp 4) = .pointer (some ⟨gn_4, 0, none⟩) := hfr 4 (by decide)
        rw [Vals.eval_tmp] at r4
        have c0 := (HA4.out.keep hJ).cell (i := 0) rfl
        have c1 := (HA4.out.keep hJ).cell (i := 1) rfl
        have c2 := (HA4.out.keep hJ).cell (i := 2) rfl
        have c3 := (HA4.out.keep hJ).cell (i := 3) rfl
        have c4 := (HA4.out.keep hJ).cell (i := 4) rfl
        have c5 := (HA4.out.keep hJ).cell (i := 5) rfl
        have c6 := (HA4.out.keep hJ).cell (i := 6) rfl
        refine Vals.wpOp_run ho' rfl ?_
        clear hdep hfr ho' hdf hcl
        go_simp
        exact hK _ _ (fun _ _ h => h) hJ (fun _ => rfl)
      | 1, ho, hd =>
        have ho' := ho
        simp only [List.getElem?_toArray, List.getElem?_cons_zero, List.getElem?_cons_succ, Option.some.injEq] at ho hd
        subst ho hd
        have r39 : a.eval (.tmp 39) = .agg #[.int .u32 x0, .int .u16 x1, .int .u16 x2, .bool u, .bool fi, .bool l, .slice a9_38 (n - 12) (n - 12)] := (hdep ⟨0, .data⟩ (by simp) rfl).2 39 rfl
        rw [Vals.eval_tmp] at r39
        refine Vals.wpOp_run ho' rfl ?_
        clear hdep hfr ho' hdf hcl
        go_simp
        refine (rputData x0 x1 x2 u fi l a9_38 (n - 12) (n - 12) (zs.drop 12) W (HR4.out.reads.below (HX.out W hJ)) (by omega) lox0 hix0 lox1 hix1 lox2 hix2).mono ?_
        rintro e w' ⟨a1, c1, rfl, hb3, hr3⟩
        exact hK _ _ (GDatS_mono hb3) (hJ.trans (hb3.mono hJ.size)) (fun _ => ⟨_, _, rfl, hr3.reads⟩)
      | 2, ho, hd =>
        have ho' := ho
        simp only [List.getElem?_toArray, List.getElem?_cons_zero, List.getElem?_cons_succ, Option.some.injEq] at ho hd
        subst ho hd
        have r1 : a.eval (.tmp 1) = .pointer (some ⟨w.heap.size, 0, none⟩) := hfr 1 (by decide)
        rw [Vals.eval_tmp] at r1
        have c0 := (HC4.out.keep hJ).cell (i := 0) rfl
        have c1 := (HC4.out.keep hJ).cell (i := 1) rfl
        have c2 := (HC4.out.keep hJ).cell (i := 2) rfl
        refine Vals.wpOp_run ho' rfl ?_
        clear hdep hfr ho' hdf hcl
        go_simp
        exact hK _ _ (fun _ _ h => h) hJ (fun _ => rfl)
      | 3, ho, hd =>
        have ho' := ho
        simp only [List.getElem?_toArray, List.getElem?_cons_zero, List.getElem?_cons_succ, Option.some.injEq] at ho hd
        subst ho hd
        have g40 : ∃ a1_40 c1_40, a.eval (.tmp 40) = .agg #[.int .u8 0, .int .u8 (dflags u fi l), .slice a1_40 (dataB x0 x1 x2 (zs.drop 12)).length c1_40] ∧ Reads W a1_40 (dataB x0 x1 x2 (zs.drop 12)).length (dataB x0 x1 x2 (zs.drop 12)) := (hdep ⟨1, .data⟩ (by simp) rfl).2 40 rfl
        rw [Vals.eval_tmp] at g40
        obtain ⟨a1_40, c1_40, r40, h40_0⟩ := g40
        have r41 : a.eval (.tmp 41) = .agg #[.int .u8 k, .int .u8 f, .slice p n c] := (hdep ⟨2, .data⟩ (by simp) rfl).2 41 rfl
        rw [Vals.eval_tmp] at r41
        refine Vals.wpOp_run ho' rfl ?_
        clear hdep hfr ho' hdf hcl
        go_simp
        refine (rsame_any 0 (dflags u fi l) k f a1_40 p _ n _ c (dataB x0 x1 x2 (zs.drop 12)) zs W h40_0 (HRW.out W hJ) (dataB_byt _ _ _ (hz.drop 12)) hz (by rw [dataB_len]; have := (HRW.out W hJ).1; simp; omega) (by omega)).mono ?_
        rintro e w' ⟨rfl, hb3⟩
        exact hK _ _ (GDatS_mono hb3) (hJ.trans (hb3.mono hJ.size)) (fun _ => by show Value.bool _ = Value.bool _; first | rfl | rw [HBB.out])
      | 4, ho, hd =>
        have ho' := ho
        simp only [List.getElem?_toArray, List.getElem?_cons_zero, List.getElem?_cons_succ, Option.some.injEq] at ho hd
        subst ho hd
        have r42 : a.eval (.tmp 42) = .bool bb := (hdep ⟨3, .data⟩ (by simp) rfl).2 42 rfl
        rw [Vals.eval_tmp] at r42
        refine Vals.wpOp_run ho' rfl ?_
        clear hdep hfr ho' hdf hcl
        go_simp
        exact hK _ _ (fun _ _ h => h) hJ (fun _ => rfl)
      | i + 5, ho, hd => simp at ho
    case fin2 =>
      intro listed W fq2 hall hJ hG
      have q0 : fq2 39 = .agg #[.int .u32 x0, .int .u16 x1, .int .u16 x2, .bool u, .bool fi, .bool l, .slice a9_38 (n - 12) (n - 12)] := hG 0 39 rfl
      obtain ⟨a1_40, c1_40, q1, hq40_0⟩ : ∃ a1_40 c1_40, fq2 40 = .agg #[.int .u8 0, .int .u8 (dflags u fi l), .slice a1_40 (dataB x0 x1 x2 (zs.drop 12)).length c1_40] ∧ Reads W a1_40 (dataB x0 x1 x2 (zs.drop 12)).length (dataB x0 x1 x2 (zs.drop 12)) := hG 1 40 rfl
      have q2 : fq2 41 = .agg #[.int .u8 k, .int .u8 f, .slice p n c] := hG 2 41 rfl
      have q3 : fq2 42 = .bool bb := hG 3 42 rfl
      have q4 : fq2 43 = .bool (!bb) := hG 4 43 rfl
      clear hG hall
      simp only [Vals.puts, Vals.pairs, List.filterMap_cons, List.filterMap_nil, id, List.map_cons, List.map_nil, List.foldl_cons, List.foldl_nil, q0, q1, q2, q3, q4]
      clear q0 q1 q2 q3 q4
      go_frame
      have hB5 := HBE.out.1.trans ((HB4.out.trans (hJ.mono HB4.out.size)).mono HBE.out.1.size)
      have hz5 := HZ4.out.keep hJ
      have hr5 := (HR4.out.keep hJ).lower HBE.out.1.size
      have hd5 := HA4.out.keep hJ
      have HBBX := HBB
      clear hJ HC4 HZ4 HRW HBB HA4 HR4 HX HB4
      cases bb with
      | false =>
        have hrw := hr5
        obtain ⟨w8, hw8⟩ : ∃ x, (((((((W.setCell ⟨(w.heap.size + 1), 0, none⟩ (.int .u32 0)).setCell ⟨(w.heap.size + 1), 1, none⟩ (.int .u16 0)).setCell ⟨(w.heap.size + 1), 2, none⟩ (.int .u16 0)).setCell ⟨(w.heap.size + 1), 3, none⟩ (.bool false)).setCell ⟨(w.heap.size + 1), 4, none⟩ (.bool false)).setCell ⟨(w.heap.size + 1), 5, none⟩ (.bool false)).setCell ⟨(w.heap.size + 1), 6, none⟩ (.slice none 0 0)) = x := ⟨_, rfl⟩
        have hA4 : Arr _ (w.heap.size + 1) 26 [.int .u32 0, .int .u16 0, .int .u16 0, .bool false, .bool false, .bool false, .slice none 0 0] := (((((((hz5.set 0 (.int .u32 0)).set 1 (.int .u16 0)).set 2 (.int .u16 0)).set 3 (.bool false)).set 4 (.bool false)).set 5 (.bool false)).set 6 (.slice none 0 0))
        have hB4 := (((((((hB5.setCell (p := ⟨(w.heap.size + 1), 0, none⟩) (by simp) (.int .u32 0)).setCell (p := ⟨(w.heap.size + 1), 1, none⟩) (by simp) (.int .u16 0)).setCell (p := ⟨(w.heap.size + 1), 2, none⟩) (by simp) (.int .u16 0)).setCell (p := ⟨(w.heap.size + 1), 3, none⟩) (by simp) (.bool false)).setCell (p := ⟨(w.heap.size + 1), 4, none⟩) (by simp) (.bool false)).setCell (p := ⟨(w.heap.size + 1), 5, none⟩) (by simp) (.bool false)).setCell (p := ⟨(w.heap.size + 1), 6, none⟩) (by simp) (.slice none 0 0))
        have hrw4 := (((((((hrw.setAt hz5 (by decide) 0 (.int .u32 0)).setAt (hz5.set 0 (.int .u32 0)) (by decide) 1 (.int .u16 0)).setAt ((hz5.set 0 (.int .u32 0)).set 1 (.int .u16 0)) (by decide) 2 (.int .u16 0)).setAt (((hz5.set 0 (.int .u32 0)).set 1 (.int .u16 0)).set 2 (.int .u16 0)) (by decide) 3 (.bool false)).setAt ((((hz5.set 0 (.int .u32 0)).set 1 (.int .u16 0)).set 2 (.int .u16 0)).set 3 (.bool false)) (by decide) 4 (.bool false)).setAt (((((hz5.set 0 (.int .u32 0)).set 1 (.int .u16 0)).set 2 (.int .u16 0)).set 3 (.bool false)).set 4 (.bool false)) (by decide) 5 (.bool false)).setAt ((((((hz5.set 0 (.int .u32 0)).set 1 (.int .u16 0)).set 2 (.int .u16 0)).set 3 (.bool false)).set 4 (.bool false)).set 5 (.bool false)) (by decide) 6 (.slice none 0 0))
        rw [hw8] at hA4 hB4 hrw4
        have fs0 := hz5.free 0
        have fs1 := hz5.free 1
        have fs2 := hz5.free 2
        have fs3 := hz5.free 3
        have fs4 := hz5.free 4
        have fs5 := hz5.free 5
        have fs6 := hz5.free 6
        have yy0 := hz5.cell (i := 0) rfl
        have yy1 := hz5.cell (i := 1) rfl
        have yy2 := hz5.cell (i := 2) rfl
        have yy3 := hz5.cell (i := 3) rfl
        have yy4 := hz5.cell (i := 4) rfl
        have yy5 := hz5.cell (i := 5) rfl
        have yy6 := hz5.cell (i := 6) rfl
        have zz0 := hA4.cell (i := 0) rfl
        have zz1 := hA4.cell (i := 1) rfl
        have zz2 := hA4.cell (i := 2) rfl
        have zz3 := hA4.cell (i := 3) rfl
        have zz4 := hA4.cell (i := 4) rfl
        have zz5 := hA4.cell (i := 5) rfl
        have zz6 := hA4.cell (i := 6) rfl
        have HE := Lib.hid (And.intro hB4 hrw4)
        clear hA4 hB4 hrw hrw4 hz5 hB5 hr5 hd5 HBE
        go_wp2
        exact bodyPost_ret (by simp [results, Try.results17, go_sem, zz0, zz1, zz2, zz3, zz4, zz5, zz6] <;> rfl) rfl ⟨a9_38, (n - 12), .inr ⟨rfl, rfl⟩, HE.out.1, HE.out.2⟩
      | true =>
        have dd0 := hd5.cell (i := 0) rfl
        have dd1 := hd5.cell (i := 1) rfl
        have dd2 := hd5.cell (i := 2) rfl
        have dd3 := hd5.cell (i := 3) rfl
        have dd4 := hd5.cell (i := 4) rfl
        have dd5 := hd5.cell (i := 5) rfl
        have dd6 := hd5.cell (i := 6) rfl
        have hrw := hr5
        obtain ⟨w8, hw8⟩ : ∃ x, (((((((W.setCell ⟨(w.heap.size + 1), 0, none⟩ (.int .u32 x0)).setCell ⟨(w.heap.size + 1), 1, none⟩ (.int .u16 x1)).setCell ⟨(w.heap.size + 1), 2, none⟩ (.int .u16 x2)).setCell ⟨(w.heap.size + 1), 3, none⟩ (.bool u)).setCell ⟨(w.heap.size + 1), 4, none⟩ (.bool fi)).setCell ⟨(w.heap.size + 1), 5, none⟩ (.bool l)).setCell ⟨(w.heap.size + 1), 6, none⟩ (.slice a9_38 (n - 12) (n - 12))) = x := ⟨_, rfl⟩
        have hA4 : Arr _ (w.heap.size + 1) 26 [.int .u32 x0, .int .u16 x1, .int .u16 x2, .bool u, .bool fi, .bool l, .slice a9_38 (n - 12) (n - 12)] := (((((((hz5.set 0 (.int .u32 x0)).set 1 (.int .u16 x1)).set 2 (.int .u16 x2)).set 3 (.bool u)).set 4 (.bool fi)).set 5 (.bool l)).set 6 (.slice a9_38 (n - 12) (n - 12)))
        have hB4 := (((((((hB5.setCell (p := ⟨(w.heap.size + 1), 0, none⟩) (by simp) (.int .u32 x0)).setCell (p := ⟨(w.heap.size + 1), 1, none⟩) (by simp) (.int .u16 x1)).setCell (p := ⟨(w.heap.size + 1), 2, none⟩) (by simp) (.int .u16 x2)).setCell (p := ⟨(w.heap.size + 1), 3, none⟩) (by simp) (.bool u)).setCell (p := ⟨(w.heap.size + 1), 4, none⟩) (by simp) (.bool fi)).setCell (p := ⟨(w.heap.size + 1), 5, none⟩) (by simp) (.bool l)).setCell (p := ⟨(w.heap.size + 1), 6, none⟩) (by simp) (.slice a9_38 (n - 12) (n - 12)))
        have hrw4 := (((((((hrw.setAt hz5 (by decide) 0 (.int .u32 x0)).setAt (hz5.set 0 (.int .u32 x0)) (by decide) 1 (.int .u16 x1)).setAt ((hz5.set 0 (.int .u32 x0)).set 1 (.int .u16 x1)) (by decide) 2 (.int .u16 x2)).setAt (((hz5.set 0 (.int .u32 x0)).set 1 (.int .u16 x1)).set 2 (.int .u16 x2)) (by decide) 3 (.bool u)).setAt ((((hz5.set 0 (.int .u32 x0)).set 1 (.int .u16 x1)).set 2 (.int .u16 x2)).set 3 (.bool u)) (by decide) 4 (.bool fi)).setAt (((((hz5.set 0 (.int .u32 x0)).set 1 (.int .u16 x1)).set 2 (.int .u16 x2)).set 3 (.bool u)).set 4 (.bool fi)) (by decide) 5 (.bool l)).setAt ((((((hz5.set 0 (.int .u32 x0)).set 1 (.int .u16 x1)).set 2 (.int .u16 x2)).set 3 (.bool u)).set 4 (.bool fi)).set 5 (.bool l)) (by decide) 6 (.slice a9_38 (n - 12) (n - 12)))
        rw [hw8] at hA4 hB4 hrw4
        have fs0 := hz5.free 0
        have fs1 := hz5.free 1
        have fs2 := hz5.free 2
        have fs3 := hz5.free 3
        have fs4 := hz5.free 4
        have fs5 := hz5.free 5
        have fs6 := hz5.free 6
        have yy0 := hz5.cell (i := 0) rfl
        have yy1 := hz5.cell (i := 1) rfl
        have yy2 := hz5.cell (i := 2) rfl
        have yy3 := hz5.cell (i := 3) rfl
        have yy4 := hz5.cell (i := 4) rfl
        have yy5 := hz5.cell (i := 5) rfl
        have yy6 := hz5.cell (i := 6) rfl
        have zz0 := hA4.cell (i := 0) rfl
        have zz1 := hA4.cell (i := 1) rfl
        have zz2 := hA4.cell (i := 2) rfl
        have zz3 := hA4.cell (i := 3) rfl
        have zz4 := hA4.cell (i := 4) rfl
        have zz5 := hA4.cell (i := 5) rfl
        have zz6 := hA4.cell (i := 6) rfl
        have HE := Lib.hid (And.intro hB4 hrw4)
        clear hA4 hB4 hrw hrw4 hz5 hB5 hr5 hd5 HBE
        go_wp2
        exact bodyPost_ret (by simp [results, Try.results17, go_sem, zz0, zz1, zz2, zz3, zz4, zz5, zz6] <;> rfl) rfl ⟨a9_38, (n - 12), .inl ⟨rfl, rfl⟩, HE.out.1, HE.out.2⟩

end Go.Proofs.Ytlihcckgnnnekaa
