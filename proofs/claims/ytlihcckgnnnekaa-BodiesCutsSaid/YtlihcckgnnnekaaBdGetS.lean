/-
  Stage 9: GetSack, the program's. Written by gensp.py.
-/
import Derived.Test.YtlihcckgnnnekaaBdRows
import Derived.Test.YtlihcckgnnnekaaGoodL
namespace Go.Proofs.Ytlihcckgnnnekaa
open Go.RowKit
set_option linter.unusedVariables false
set_option linter.unusedSimpArgs false
set_option linter.unnecessarySimpa false

/-- What GetSack answers: a value, or none. -/
def GotS (w : World) (b : Bool) (x0 x1 : Int) (gs : List (Int × Int)) (ds : List Int) (e : Ending) (w' : World) : Prop :=
  ∃ a1 c1 a2 c2, Chose b (.agg #[.int .u32 x0, .int .u32 x1, .slice a1 gs.length c1, .slice a2 ds.length c2]) (.agg #[.int .u32 0, .int .u32 0, .slice none 0 0, .slice none 0 0]) e ∧ Below w.heap.size w w' ∧ Prs w' a1 gs.length gs ∧ Nums .u32 w' a2 ds.length ds

/-- What the operations of the drawn region leave behind. -/
def GSk (w wE : World) (k f x0 x1 : Int) (p : Option Addr) (n c : Nat) (i : Nat) (v : Value) (W : World) : Prop := match i with | 0 => v = .pointer (some ⟨w.heap.size, 2, none⟩) | 1 => v = .slice p n c | 2 => v = .int .u64 x0 | 3 => v = .int .u32 x0 | 4 => v = .pointer (some ⟨w.heap.size, 2, none⟩) | 5 => v = .slice p n c | 6 => v = .int .u64 x1 | 7 => v = .int .u32 x1 | 8 => v = .agg #[.int .u32 x0, .int .u32 x1, .slice none 0 0, .slice none 0 0] | 9 => ∃ gn, v = .pointer (some ⟨gn, 0, none⟩) ∧ wE.heap.size ≤ gn ∧ Arr W gn 52 [.int .u32 0, .int .u32 0, .slice none 0 0, .slice none 0 0] | _ => True
theorem GSk_mono {w wE : World} {k f x0 x1 : Int} {p : Option Addr} {n c : Nat} {W W' : World} (hb : Below W.heap.size W W') (jo : Nat) (xo : Value) (h : GSk w wE k f x0 x1 p n c jo xo W) : GSk w wE k f x0 x1 p n c jo xo W' := by
  unfold GSk at h ⊢
  split at h <;> try exact h
  · obtain ⟨gn, e0, h0_0, h0_1⟩ := h
    exact ⟨gn, e0, h0_0, h0_1.keep hb⟩

/-- What the operations of the drawn region leave behind. -/
def GSd (w wr : World) (g base : Nat) (px x0 x1 : Int) (p : Option Addr) (n c j t E : Nat) (a1 : Option Addr) (K1 c1 : Nat) (gs1 : List (Int × Int)) (a2 : Option Addr) (c2 : Nat) (zs : List Int) (i : Nat) (v : Value) (W : World) : Prop := match i with | 0 => v = .pointer (some ⟨g, 3, none⟩) | 1 => v = .slice a2 j c2 | 2 => v = .pointer (some ⟨w.heap.size, 2, none⟩) | 3 => v = .slice p n c | 4 => v = .int .i64 (t : Int) | 5 => v = .int .u64 px | 6 => v = .int .u32 px | 7 => ∃ gs, v = .slice (some ⟨gs, 0, none⟩) 1 1 ∧ wr.heap.size ≤ gs ∧ Arr W gs 22 [.int .u32 px] | 8 => ∃ a9 c9, v = .slice a9 (j + 1) c9 ∧ Row32 base W a9 (j + 1) c9 (numsAt zs E (j + 1)) ∧ RowP 79 base W a1 K1 c1 gs1 | 9 => v = .pointer (some ⟨g, 3, none⟩) | _ => True
theorem GSd_mono {w wr : World} {g base : Nat} {px x0 x1 : Int} {p : Option Addr} {n c j t E : Nat} {a1 : Option Addr} {K1 c1 : Nat} {gs1 : List (Int × Int)} {a2 : Option Addr} {c2 : Nat} {zs : List Int} {W W' : World} (hb : Below W.heap.size W W') (jo : Nat) (xo : Value) (h : GSd w wr g base px x0 x1 p n c j t E a1 K1 c1 gs1 a2 c2 zs jo xo W) : GSd w wr g base px x0 x1 p n c j t E a1 K1 c1 gs1 a2 c2 zs jo xo W' := by
  unfold GSd at h ⊢
  split at h <;> try exact h
  · obtain ⟨gs, e0, h0_0, h0_1⟩ := h
    exact ⟨gs, e0, h0_0, h0_1.keep hb⟩
  · obtain ⟨a9, c9, e0, h0_0, h0_1⟩ := h
    exact ⟨a9, c9, e0, owns_keep h0_0 hb, owns_keep h0_1 hb⟩
theorem GSd_app {w wr : World} {g base : Nat} {px x0 x1 : Int} {p : Option Addr} {n c j t E : Nat} {a1 : Option Addr} {K1 c1 : Nat} {gs1 : List (Int × Int)} {a2 : Option Addr} {c2 : Nat} {zs : List Int} {W W9 : World} {jj : Nat} {xo : Value} (hrb : ∀ k, (Value.slice a2 j c2).ownBlock = some k → k < wr.heap.size) (hg : W.grownBy W9 (Value.slice a2 j c2).ownBlock) (hj : jj ≠ 8) (h : GSd w wr g base px x0 x1 p n c j t E a1 K1 c1 gs1 a2 c2 zs jj xo W) : GSd w wr g base px x0 x1 p n c j t E a1 K1 c1 gs1 a2 c2 zs jj xo W9 := by
  unfold GSd at h ⊢
  split at h <;> first | exact h | exact absurd rfl hj | skip
  obtain ⟨gs, e0, h1, h2⟩ := h
  exact ⟨gs, e0, h1, (hg.block gs h2.lt (fun e => by have := hrb gs e.symm; omega)).trans h2⟩

/-- What the operations of the drawn region leave behind. -/
def GSj (w v6 : World) (g : Nat) (k f x0 x1 y0 y1 er : Int) (p : Option Addr) (n c : Nat) (a1 : Option Addr) (K1 c1 : Nat) (a2 : Option Addr) (K2 c2 : Nat) (ya : Option Addr) (yn yc : Nat) (yd : Option Addr) (ym ye : Nat) (vv : Bool) (gs1 : List (Int × Int)) (ds1 : List Int) (i : Nat) (v : Value) (W : World) : Prop := match i with | 0 => v = .agg #[.int .u8 k, .int .u8 f, .slice p n c] | 1 => v = .agg #[.int .u32 x0, .int .u32 x1, .slice a1 K1 c1, .slice a2 K2 c2] | 2 => v = .pointer (some ⟨g, 2, none⟩) | 3 => v = .slice a1 K1 c1 | 4 => v = .bool vv | 5 => v = .tuple #[.agg #[.int .u32 y0, .int .u32 y1, .slice ya yn yc, .slice yd ym ye], .int .i64 er] | 6 => v = .agg #[.int .u32 y0, .int .u32 y1, .slice ya yn yc, .slice yd ym ye] | 7 => v = .int .i64 er | 9 => v = .int .i64 er | _ => True
theorem GSj_mono {w v6 : World} {g : Nat} {k f x0 x1 y0 y1 er : Int} {p : Option Addr} {n c : Nat} {a1 : Option Addr} {K1 c1 : Nat} {a2 : Option Addr} {K2 c2 : Nat} {ya : Option Addr} {yn yc : Nat} {yd : Option Addr} {ym ye : Nat} {vv : Bool} {gs1 : List (Int × Int)} {ds1 : List Int} {W W' : World} (hb : Below W.heap.size W W') (jo : Nat) (xo : Value) (h : GSj w v6 g k f x0 x1 y0 y1 er p n c a1 K1 c1 a2 K2 c2 ya yn yc yd ym ye vv gs1 ds1 jo xo W) : GSj w v6 g k f x0 x1 y0 y1 er p n c a1 K1 c1 a2 K2 c2 ya yn yc yd ym ye vv gs1 ds1 jo xo W' := by
  unfold GSj at h ⊢
  split at h <;> try exact h
theorem GSj_any {w v6 : World} {g : Nat} {k f x0 x1 y0 y1 er : Int} {p : Option Addr} {n c : Nat} {a1 : Option Addr} {K1 c1 : Nat} {a2 : Option Addr} {K2 c2 : Nat} {ya : Option Addr} {yn yc : Nat} {yd : Option Addr} {ym ye : Nat} {vv : Bool} {gs1 : List (Int × Int)} {ds1 : List Int} {W W' : World} (jo : Nat) (xo : Value) (h : GSj w v6 g k f x0 x1 y0 y1 er p n c a1 K1 c1 a2 K2 c2 ya yn yc yd ym ye vv gs1 ds1 jo xo W) : GSj w v6 g k f x0 x1 y0 y1 er p n c a1 K1 c1 a2 K2 c2 ya yn yc yd ym ye vv gs1 ds1 jo xo W' := by
  unfold GSj at h ⊢
  split at h <;> exact h

set_option maxRecDepth 100000 in
set_option maxHeartbeats 3200000 in
theorem pgetSack' (k f : Int) (p : Option Addr) (n c : Nat) (zs : List Int) (w : World) (hr : Reads w p n zs) (hz : Byt zs) (hc : n ≤ c) (hn : n ≤ 200000) (x0 : Int) (hxx0 : natAt zs 0 4 = x0) (x1 : Int) (hxx1 : natAt zs 4 4 = x1) (m E : Nat) (hx2 : natAt zs 8 2 = (m : Int)) (hE : E = 12 + 4 * m) :
    Calls Try.prog 30 #[.agg #[.int .u8 k, .int .u8 f, .slice p n c]] w fun e w' => GotS w (apartF 0 (pairsAt zs 12 ((min E n - 12 + 3) / 4)) && eqC k f zs 3 0 (sackB x0 x1 (pairsAt zs 12 ((min E n - 12 + 3) / 4)) (numsAt zs E ((n - E + 3) / 4)))) x0 x1 (pairsAt zs 12 ((min E n - 12 + 3) / 4)) (numsAt zs E ((n - E + 3) / 4)) e w' := by
  have HNx0 := Lib.hid (show ∀ W, Reads W p n zs → Calls Try.prog 50 #[.slice p n c, .int .i64 0, .int .i64 4] W fun e w' => e = .returned (.int .u64 x0) ∧ W = w' from fun W h => hxx0 ▸ num_any p n c 0 4 zs W h hz (by omega) (by omega) rfl)
  obtain ⟨lox0, hix0⟩ : 0 ≤ x0 ∧ x0 < 4294967296 := hxx0 ▸ natAt4 hz 0
  have HNx1 := Lib.hid (show ∀ W, Reads W p n zs → Calls Try.prog 50 #[.slice p n c, .int .i64 4, .int .i64 4] W fun e w' => e = .returned (.int .u64 x1) ∧ W = w' from fun W h => hxx1 ▸ num_any p n c 4 4 zs W h hz (by omega) (by omega) rfl)
  obtain ⟨lox1, hix1⟩ : 0 ≤ x1 ∧ x1 < 4294967296 := hxx1 ▸ natAt4 hz 4
  have HNx2 := Lib.hid (show ∀ W, Reads W p n zs → Calls Try.prog 50 #[.slice p n c, .int .i64 8, .int .i64 2] W fun e w' => e = .returned (.int .u64 (m : Int)) ∧ W = w' from fun W h => hx2 ▸ num_any p n c 8 2 zs W h hz (by omega) (by omega) rfl)
  have HM16 := Lib.hid (show (m : Int) < 65536 from hx2 ▸ (natAt2 hz 8).2)
  obtain ⟨wa, hwa⟩ : ∃ wa, w.alloc (.cells #[.int .u8 k, .int .u8 f, .slice p n c] 28) = wa := ⟨_, rfl⟩
  have hba : Below w.heap.size w wa := by rw [← hwa]; exact chunkBelow w k f _
  have hsa : wa.heap.size = w.heap.size + 1 := by rw [← hwa]; simp
  have hca : Arr wa w.heap.size 28 [.int .u8 k, .int .u8 f, .slice p n c] := by rw [← hwa]; exact chunkBox w k f _
  obtain ⟨wE, hwE⟩ : ∃ wE, wa.alloc (.cells #[.int .u32 0, .int .u32 0, .slice none 0 0, .slice none 0 0] 52) = wE := ⟨_, rfl⟩
  have hbE0 : Below wa.heap.size wa wE := by rw [← hwE]; exact (Below.refl _ _).alloc (Nat.le_refl _) _
  have hsE : wE.heap.size = w.heap.size + 2 := by rw [← hwE]; simp; omega
  have hzE : Arr wE (w.heap.size + 1) 52 [.int .u32 0, .int .u32 0, .slice none 0 0, .slice none 0 0] := by rw [← hwE, ← hsa]; exact arr_new _ _ _
  have hcE := hca.keep hbE0
  have hbE := hba.trans (hbE0.mono hba.size)
  have hr2 := hr.below hbE
  have HRW := Lib.hid (show ∀ W, Below wE.heap.size wE W → Reads W p n zs from fun W h => hr2.below h)
  have HC := Lib.hid hcE
  have HZ := Lib.hid hzE
  have HBE := Lib.hid (And.intro hbE hsE)
  obtain ⟨gs1, hgs1⟩ : ∃ gs1, gs1 = pairsAt zs 12 ((min E n - 12 + 3) / 4) := ⟨_, rfl⟩
  obtain ⟨ds1, hds1⟩ : ∃ ds1, ds1 = numsAt zs E ((n - E + 3) / 4) := ⟨_, rfl⟩
  rw [← hgs1, ← hds1]
  obtain ⟨K1, hK1⟩ : ∃ K1, K1 = (min E n - 12 + 3) / 4 := ⟨_, rfl⟩
  obtain ⟨K2, hK2⟩ : ∃ K2, K2 = (n - E + 3) / 4 := ⟨_, rfl⟩
  obtain ⟨M, hM⟩ : ∃ M, M = min E n := ⟨_, rfl⟩
  rw [← hM] at hK1 hgs1
  rw [← hK1] at hgs1
  rw [← hK2] at hds1
  have HGS := Lib.hid (And.intro hgs1 hds1)
  have HK := Lib.hid (And.intro hK1 (And.intro hK2 (And.intro hM hE)))
  clear hba hca hbE0 hzE hcE hbE hr hr2 hxx0 hxx1 hx2 hgs1 hds1 hK1 hK2 hM hE
  go_enter Try.func30, Try.ntmps30
  go_wp2_with fail
  refine wp_region_any (by kernel_rfl) ?_
  refine Vals.wpAny_goodLast (GSk w wE k f x0 x1 p n c) (fun W => Below wE.heap.size wE W) [some 10, some 11, some 12, some 13, some 14, some 15, some 16, some 17, some 18, some 4, none] 10 79 _ _ rfl (by kernel_rfl) (by kernel_rfl) (by kernel_rfl) (by decide) rfl ?step ?fin (Below.refl _ _).drew
  case step =>
    intro i o d ho hd hiN a W hJ hdf hdep hfr K hK
    match i, ho, hd with
    | 0, ho, hd =>
      have ho' := ho
      simp only [List.getElem?_toArray, List.getElem?_cons_zero, Option.some.injEq] at ho hd
      subst ho hd
      have r1 : a.eval (.tmp 1) = .pointer (some ⟨w.heap.size, 0, none⟩) := hfr 1 (by decide)
      rw [Vals.eval_tmp] at r1
      refine Vals.wpOp_run ho' rfl ?_
      clear hdep hfr ho' hdf
      go_simp
      exact hK _ _ (fun _ _ h => h) hJ (fun _ => rfl)
    | 1, ho, hd =>
      have ho' := ho
      simp only [List.getElem?_toArray, List.getElem?_cons_zero, List.getElem?_cons_succ, Option.some.injEq] at ho hd
      subst ho hd
      have r10 : a.eval (.tmp 10) = .pointer (some ⟨w.heap.size, 2, none⟩) := hdep ⟨0, .data⟩ (by simp) rfl 10 rfl
      rw [Vals.eval_tmp] at r10
      have c0 := (HC.out.keep hJ).cell (i := 2) rfl
      refine Vals.wpOp_run ho' rfl ?_
      clear hdep hfr ho' hdf
      go_simp
      exact hK _ _ (fun _ _ h => h) hJ (fun _ => rfl)
    | 2, ho, hd =>
      have ho' := ho
      simp only [List.getElem?_toArray, List.getElem?_cons_zero, List.getElem?_cons_succ, Option.some.injEq] at ho hd
      subst ho hd
      have r11 : a.eval (.tmp 11) = .slice p n c := hdep ⟨1, .data⟩ (by simp) rfl 11 rfl
      rw [Vals.eval_tmp] at r11
      refine Vals.wpOp_run ho' rfl ?_
      clear hdep hfr ho' hdf
      go_simp
      refine (HNx0.out W (HRW.out W hJ)).mono ?_
      rintro e w' ⟨rfl, rfl⟩
      exact hK _ _ (fun _ _ h => h) hJ (fun _ => rfl)
    | 3, ho, hd =>
      have ho' := ho
      simp only [List.getElem?_toArray, List.getElem?_cons_zero, List.getElem?_cons_succ, Option.some.injEq] at ho hd
      subst ho hd
      have r12 : a.eval (.tmp 12) = .int .u64 x0 := hdep ⟨2, .data⟩ (by simp) rfl 12 rfl
      rw [Vals.eval_tmp] at r12
      refine Vals.wpOp_run ho' rfl ?_
      clear hdep hfr ho' hdf
      go_simp
      exact hK _ _ (fun _ _ h => h) hJ (fun _ => (by first | rfl | exact congrArg (Value.int _) (Int.emod_eq_of_lt lox0 hix0)))
    | 4, ho, hd =>
      have ho' := ho
      simp only [List.getElem?_toArray, List.getElem?_cons_zero, List.getElem?_cons_succ, Option.some.injEq] at ho hd
      subst ho hd
      have r1 : a.eval (.tmp 1) = .pointer (some ⟨w.heap.size, 0, none⟩) := hfr 1 (by decide)
      rw [Vals.eval_tmp] at r1
      refine Vals.wpOp_run ho' rfl ?_
      clear hdep hfr ho' hdf
      go_simp
      exact hK _ _ (fun _ _ h => h) hJ (fun _ => rfl)
    | 5, ho, hd =>
      have ho' := ho
      simp only [List.getElem?_toArray, List.getElem?_cons_zero, List.getElem?_cons_succ, Option.some.injEq] at ho hd
      subst ho hd
      have r14 : a.eval (.tmp 14) = .pointer (some ⟨w.heap.size, 2, none⟩) := hdep ⟨4, .data⟩ (by simp) rfl 14 rfl
      rw [Vals.eval_tmp] at r14
      have c0 := (HC.out.keep hJ).cell (i := 2) rfl
      refine Vals.wpOp_run ho' rfl ?_
      clear hdep hfr ho' hdf
      go_simp
      exact hK _ _ (fun _ _ h => h) hJ (fun _ => rfl)
    | 6, ho, hd =>
      have ho' := ho
      simp only [List.getElem?_toArray, List.getElem?_cons_zero, List.getElem?_cons_succ, Option.some.injEq] at ho hd
      subst ho hd
      have r15 : a.eval (.tmp 15) = .slice p n c := hdep ⟨5, .data⟩ (by simp) rfl 15 rfl
      rw [Vals.eval_tmp] at r15
      refine Vals.wpOp_run ho' rfl ?_
      clear hdep hfr ho' hdf
      go_simp
      refine (HNx1.out W (HRW.out W hJ)).mono ?_
      rintro e w' ⟨rfl, rfl⟩
      exact hK _ _ (fun _ _ h => h) hJ (fun _ => rfl)
    | 7, ho, hd =>
      have ho' := ho
      simp only [List.getElem?_toArray, List.getElem?_cons_zero, List.getElem?_cons_succ, Option.some.injEq] at ho hd
      subst ho hd
      have r16 : a.eval (.tmp 16) = .int .u64 x1 := hdep ⟨6, .data⟩ (by simp) rfl 16 rfl
      rw [Vals.eval_tmp] at r16
      refine Vals.wpOp_run ho' rfl ?_
      clear hdep hfr ho' hdf
      go_simp
      exact hK _ _ (fun _ _ h => h) hJ (fun _ => (by first | rfl | exact congrArg (Value.int _) (Int.emod_eq_of_lt lox1 hix1)))
    | 8, ho, hd =>
      have ho' := ho
      simp only [List.getElem?_toArray, List.getElem?_cons_zero, List.getElem?_cons_succ, Option.some.injEq] at ho hd
      subst ho hd
      have r13 : a.eval (.tmp 13) = .int .u32 x0 := hdep ⟨3, .data⟩ (by simp) rfl 13 rfl
      rw [Vals.eval_tmp] at r13
      have r17 : a.eval (.tmp 17) = .int .u32 x1 := hdep ⟨7, .data⟩ (by simp) rfl 17 rfl
      rw [Vals.eval_tmp] at r17
      refine Vals.wpOp_run ho' rfl ?_
      clear hdep hfr ho' hdf
      go_simp
      exact hK _ _ (fun _ _ h => h) hJ (fun _ => rfl)
    | 9, ho, hd =>
      have ho' := ho
      simp only [List.getElem?_toArray, List.getElem?_cons_zero, List.getElem?_cons_succ, Option.some.injEq] at ho hd
      subst ho hd
      refine Vals.wpOp_run ho' rfl ?_
      clear hdep hfr ho' hdf
      go_simp
      have hb3 : Below W.heap.size W (W.alloc (.cells #[.int .u32 0, .int .u32 0, .slice none 0 0, .slice none 0 0] 52)) := (Below.refl _ _).alloc (Nat.le_refl _) _
      exact hK _ _ (GSk_mono hb3) (hJ.trans (hb3.mono hJ.size)) (fun _ => ⟨_, rfl, hJ.size, arr_new _ _ _⟩)
    | ib + 10, ho, hd => omega
  case fin =>
    intro W fq hJ hG
    have q0 : fq 10 = .pointer (some ⟨w.heap.size, 2, none⟩) := hG 0 10 rfl
    have q1 : fq 11 = .slice p n c := hG 1 11 rfl
    have q2 : fq 12 = .int .u64 x0 := hG 2 12 rfl
    have q3 : fq 13 = .int .u32 x0 := hG 3 13 rfl
    have q4 : fq 14 = .pointer (some ⟨w.heap.size, 2, none⟩) := hG 4 14 rfl
    have q5 : fq 15 = .slice p n c := hG 5 15 rfl
    have q6 : fq 16 = .int .u64 x1 := hG 6 16 rfl
    have q7 : fq 17 = .int .u32 x1 := hG 7 17 rfl
    have q8 : fq 18 = .agg #[.int .u32 x0, .int .u32 x1, .slice none 0 0, .slice none 0 0] := hG 8 18 rfl
    obtain ⟨gn_4, q9, hq4_0, hq4_1⟩ : ∃ gn_4, fq 4 = .pointer (some ⟨gn_4, 0, none⟩) ∧ wE.heap.size ≤ gn_4 ∧ Arr W gn_4 52 [.int .u32 0, .int .u32 0, .slice none 0 0, .slice none 0 0] := hG 9 4 rfl
    clear hG
    refine Vals.wpOp_run rfl rfl ?_
    simp only [Vals.puts, Vals.pairs, List.filterMap_cons, List.filterMap_nil, id, List.map_cons, List.map_nil, List.foldl_cons, List.foldl_nil, q0, q1, q2, q3, q4, q5, q6, q7, q8, q9]
    clear q0 q1 q2 q3 q4 q5 q6 q7 q8 q9
    go_frame
    obtain ⟨W4, hW4⟩ : ∃ x, ((((W.setCell ⟨gn_4, 0, none⟩ (.int .u32 x0)).setCell ⟨gn_4, 1, none⟩ (.int .u32 x1)).setCell ⟨gn_4, 2, none⟩ (.slice none 0 0)).setCell ⟨gn_4, 3, none⟩ (.slice none 0 0)) = x := ⟨_, rfl⟩
    have hA4 : Arr _ gn_4 52 [.int .u32 x0, .int .u32 x1, .slice none 0 0, .slice none 0 0] := ((((hq4_1.set 0 (.int .u32 x0)).set 1 (.int .u32 x1)).set 2 (.slice none 0 0)).set 3 (.slice none 0 0))
    have hB4 := (((((hJ : Below wE.heap.size wE W).setCell (p := ⟨gn_4, 0, none⟩) hq4_0 (.int .u32 x0)).setCell (p := ⟨gn_4, 1, none⟩) hq4_0 (.int .u32 x1)).setCell (p := ⟨gn_4, 2, none⟩) hq4_0 (.slice none 0 0)).setCell (p := ⟨gn_4, 3, none⟩) hq4_0 (.slice none 0 0))
    rw [hW4] at hA4 hB4
    have fr0 := hq4_1.free 0
    have fr1 := hq4_1.free 1
    have fr2 := hq4_1.free 2
    have fr3 := hq4_1.free 3
    have y0 := hq4_1.cell (i := 0) rfl
    have y1 := hq4_1.cell (i := 1) rfl
    have y2 := hq4_1.cell (i := 2) rfl
    have y3 := hq4_1.cell (i := 3) rfl
    have HA4 := Lib.hid hA4
    have HB4 := Lib.hid hB4
    have HGN := Lib.hid hq4_0
    clear hJ hq4_1 hq4_0 hA4 hB4
    go_simp
    clear fr0 fr1 fr2 fr3 y0 y1 y2 y3
    generalize gn_4 = g at *
    clear hW4
    have cc0 := (HC.out.keep HB4.out).cell (i := 0) rfl
    have cc1 := (HC.out.keep HB4.out).cell (i := 1) rfl
    have cc2 := (HC.out.keep HB4.out).cell (i := 2) rfl
    have hm16 := HM16.out
    have hNX := HNx2.out W4 (HRW.out W4 HB4.out)
    have HNX := Lib.hid hNX
    clear hNX
    go_wp2_with fail
    refine HNX.out.mono ?_
    rintro e w' ⟨rfl, rfl⟩
    have hEi : 12 + 4 * (m : Int) = (E : Int) := by have := HK.out.2.2.2; omega
    have hmin1 : (if E < n then (E : Int) else (n : Int)) = (M : Int) := by have := HK.out.2.2.1; split <;> omega
    have hmin2 : (if n < E then (n : Int) else (E : Int)) = (M : Int) := by have := HK.out.2.2.1; split <;> omega
    have HMIN := Lib.hid (And.intro hEi (And.intro hmin1 hmin2))
    go_wp2
    clear hEi hmin1 hmin2 cc0 cc1 cc2
    have HGL := Lib.hid (show g < W4.heap.size from HA4.out.lt)
    go_loopw [6] (fun ii wr => ∃ (j t : Nat) (a2 : Option Addr) (c2 : Nat), j ≤ K1 ∧ RowKit.Hid (t = 12 + 4 * j) ∧ ii = .int .i64 (t : Int) ∧ Arr wr g 52 [.int .u32 x0, .int .u32 x1, .slice a2 j c2, .slice none 0 0] ∧ RowP 79 W4.heap.size wr a2 j c2 (pairsAt zs 12 j) ∧ Turn [g] W4 wr) (fun ii _ => M - (intOf ii).toNat)
    case atStart => exact ⟨0, 12, none, 0, Nat.zero_le _, Lib.hid rfl, rfl, HA4.out, World.ownsRow_nil _ _ _ _, Turn.refl _ _⟩
    case round =>
      obtain ⟨j, t, a2, c2, hj, hT, rfl, hA, hO, ht⟩ := hrel
      have hBr : Below wE.heap.size wE wr := HB4.out.trans (ht.below HB4.out.size (by intro k hk; simp at hk; have := HGN.out; omega))
      have cl0 := (HC.out.keep hBr).cell (i := 0) rfl
      have cl1 := (HC.out.keep hBr).cell (i := 1) rfl
      have cl2 := (HC.out.keep hBr).cell (i := 2) rfl
      have dc0 := hA.cell (i := 0) rfl
      have dc1 := hA.cell (i := 1) rfl
      have dc2 := hA.cell (i := 2) rfl
      have dc3 := hA.cell (i := 3) rfl
      have hrd := HRW.out wr hBr
      have HS := Lib.hid (And.intro hA (And.intro hO (And.intro ht hBr)))
      clear hA hO ht hBr
      obtain ⟨hEi, hmin1, hmin2⟩ := HMIN.out
      have hMn : M ≤ n := by have := HK.out.2.2.1; omega
      by_cases hlt : t < M
      · have hlti : (t : Int) < (M : Int) := by omega
        have hkn : j < K1 := by have := hT.out; have := HK.out.1; omega
        obtain ⟨px, hpx⟩ : ∃ x, x = natAt zs t 2 := ⟨_, rfl⟩
        obtain ⟨py, hpy⟩ : ∃ x, x = natAt zs (t + 2) 2 := ⟨_, rfl⟩
        have HQ1 := Lib.hid (fun jj => quiet_of (num_any p n c (t) 2 zs (wr.drewN jj) (hrd.below (Below.of_drewN _ jj)) hz (by omega) (by omega) rfl))
        have HQ2 := Lib.hid (fun jj => quiet_of (num_any p n c (t + 2) 2 zs (wr.drewN jj) (hrd.below (Below.of_drewN _ jj)) hz (by omega) (by omega) rfl))
        rw [show (((t + 2 : Nat)) : Int) = (t : Int) + 2 from rfl, show ((2 : Nat) : Int) = 2 from rfl, ← hpy] at HQ2
        rw [show ((2 : Nat) : Int) = 2 from rfl, ← hpx] at HQ1
        obtain ⟨q0, q1⟩ : 0 ≤ px ∧ px < 65536 := hpx ▸ natAt2 hz t
        obtain ⟨q2, q3⟩ : 0 ≤ py ∧ py < 65536 := hpy ▸ natAt2 hz (t + 2)
        have HP := Lib.hid (And.intro hpx hpy)
        have HKN := Lib.hid (show j < K1 ∧ j ≤ 100000 from ⟨hkn, by have := hT.out; omega⟩)
        clear hpx hpy hrd hkn
        go_wp2_with fail
        go_quiet (first | with_reducible exact HQ1.out _ | with_reducible exact HQ2.out _)
        have hA2 : Arr (wr.drewN nq) g 52 [.int .u32 x0, .int .u32 x1, .slice a2 j c2, .slice none 0 0] := HS.out.1
        have hO2 : RowP 79 W4.heap.size (wr.drewN nq) a2 j c2 (pairsAt zs 12 j) := owns_keep HS.out.2.1 (Below.of_drewN wr nq)
        have ht2 : Turn [g] W4 (wr.drewN nq) := HS.out.2.2.1.drewN nq
        clear cl0 cl1 cl2 dc0 dc1 dc2 dc3 hEi hmin1 hmin2
        generalize wr.drewN nq = w2 at hA2 hO2 ht2 ⊢
        have dc0 := hA2.cell (i := 0) rfl
        have dc1 := hA2.cell (i := 1) rfl
        have dc2 := hA2.cell (i := 2) rfl
        have dc3 := hA2.cell (i := 3) rfl
        have hal : Below w2.heap.size w2 (w2.alloc (.cells #[.int .u16 px, .int .u16 py] 79)) := (Below.refl _ _).alloc (Nat.le_refl _) _
        have hO3 := owns_keep hO2 hal
        have hA3 := hA2.keep hal
        have ht3 := ht2.alloc (.cells #[.int .u16 px, .int .u16 py] 79)
        have hN3 : Arr (w2.alloc (.cells #[.int .u16 px, .int .u16 py] 79)) w2.heap.size 79 [.int .u16 px, .int .u16 py] := arr_new _ _ _
        obtain ⟨a5, c5, w5, hrun, H5⟩ := owns_append1 Try.infoGap Try.underlying49 rfl (by decide) (by decide) hO3 ht3.size (by have := HKN.out; omega) w2.heap.size [.int .u16 px, .int .u16 py] rfl hN3 (by intro u hu; simp at hu; rcases hu with rfl | rfl <;> rfl)
        have hA5 := grown_arr hO3 H5.out.2 hA3 HGL.out
        have ht5 := grown_turn hO3 H5.out.2 ht3 (Nat.le_refl _)
        have HRUN := Lib.hid hrun
        obtain ⟨w6, hw6⟩ : ∃ w6, w5.setCell ⟨g, 2, none⟩ (.slice a5 (j + 1) c5) = w6 := ⟨_, rfl⟩
        have hA6 : Arr w6 g 52 [.int .u32 x0, .int .u32 x1, .slice a5 (j + 1) c5, .slice none 0 0] := by rw [← hw6]; exact hA5.set 2 _
        have ht6 : Turn [g] W4 w6 := by rw [← hw6]; exact ht5.setCell (p := ⟨g, 2, none⟩) (by simp) _
        have hO6 : RowP 79 W4.heap.size w6 a5 (j + 1) c5 (pairsAt zs 12 (j + 1)) := by
          have h := H5.out.1
          have e : pairC (pairsAt zs 12 (j + 1)) = pairC (pairsAt zs 12 j) ++ [.int .u16 px, .int .u16 py] := by
            rw [pairsAt_succ, pairC_snoc, ← hT.out, ← HP.out.1, ← HP.out.2]
          unfold RowP
          rw [e, ← hw6]
          exact ownsRow_turn h ((Turn.refl [g] w5).setCell (p := ⟨g, 2, none⟩) (by simp) _) (by simpa using HGL.out)
        have fr := hA5.free 2
        have y1 := hA5.cell (i := 2) rfl
        have H6 := Lib.hid (And.intro hA6 (And.intro hO6 ht6))
        have HT6 := Lib.hid (show t + 4 = 12 + 4 * (j + 1) by have := hT.out; omega)
        clear hal hO3 hA3 ht3 hN3 hrun hA5 ht5 hA6 ht6 hO6 hO2 hA2 ht2 H5
        go_wp2_with (at_builtin; refine wpList_append_run rfl (.tmp 44) (.tmp 50) 49 rfl _ _ _ _ rfl rfl HRUN.out ?_)
        exact ⟨⟨j + 1, t + 4, a5, c5, HKN.out.1, HT6, congrArg (Value.int .i64) (by omega), H6.out⟩, by simp [intOf]; omega⟩
      · have hlti : ¬ (t : Int) < (M : Int) := by omega
        have hjK : j = K1 := by have := hT.out; have := HK.out.1; omega
        subst hjK
        have HS1 := HS
        clear hrd HS
        obtain ⟨a1, ha1⟩ : ∃ a1, a1 = a2 := ⟨_, rfl⟩
        obtain ⟨c1, hc1⟩ : ∃ c1, c1 = c2 := ⟨_, rfl⟩
        have HG1 := Lib.hid (show gs1 = pairsAt zs 12 j from HGS.out.1)
        have hO1 := HS1.out.2.1
        rw [← HG1.out] at hO1
        have HO1 := Lib.hid hO1
        clear hO1 ha1 hc1
        go_wp2
        clear cl0 cl1 cl2 dc0 dc1 dc2 dc3 hEi hmin1 hmin2 hlti hlt
        have hwr0 := HS1.out.1
        have htr0 := HS1.out.2.2.1
        go_loopw [9] (fun ii wq => ∃ (ib t2 : Nat) (b2 : Option Addr) (d2 : Nat), ib ≤ K2 ∧ RowKit.Hid (t2 = E + 4 * ib) ∧ ii = .int .i64 (t2 : Int) ∧ Arr wq g 52 [.int .u32 x0, .int .u32 x1, .slice a2 j c2, .slice b2 ib d2] ∧ Row32 W4.heap.size wq b2 ib d2 (numsAt zs E ib) ∧ RowP 79 W4.heap.size wq a2 j c2 gs1 ∧ Turn [g] W4 wq) (fun ii _ => n - (intOf ii).toNat)
        case atStart => exact ⟨0, E, none, 0, Nat.zero_le _, Lib.hid rfl, congrArg (Value.int .i64) (by first | rfl | exact HMIN.out.1), hwr0, World.ownsRow_nil _ _ _ _, HO1.out, htr0⟩
        case round =>
          clear hwr0 htr0 HS1 HO1
          obtain ⟨ib, t2, b2, d2, hi, hT2, rfl, hA, hO, hP, ht⟩ := hrel
          obtain ⟨base, hbase⟩ : ∃ base, base = W4.heap.size := ⟨_, rfl⟩
          rw [← hbase] at hO hP
          have hBr : Below wE.heap.size wE wr := HB4.out.trans (ht.below HB4.out.size (by intro k hk; simp at hk; have := HGN.out; omega))
          have cl0 := (HC.out.keep hBr).cell (i := 0) rfl
          have cl1 := (HC.out.keep hBr).cell (i := 1) rfl
          have cl2 := (HC.out.keep hBr).cell (i := 2) rfl
          have dc0 := hA.cell (i := 0) rfl
          have dc1 := hA.cell (i := 1) rfl
          have dc2 := hA.cell (i := 2) rfl
          have dc3 := hA.cell (i := 3) rfl
          have HCr := Lib.hid (HC.out.keep hBr)
          have HAr := Lib.hid hA
          have HOr := Lib.hid hO
          have HPr := Lib.hid hP
          have HTr := Lib.hid ht
          have HBr := Lib.hid hBr
          have HBS := Lib.hid (show base ≤ wr.heap.size by rw [hbase]; exact ht.size)
          have HBL := Lib.hid (show w.heap.size < base ∧ g < base by rw [hbase]; exact ⟨by have := HGL.out; have := HGN.out; have := HBE.out.2; omega, HGL.out⟩)
          have HRX := Lib.hid (show ∀ W, Below base wr W → Reads W p n zs from fun W h => HRW.out W (hBr.trans (h.mono (by have := HBE.out.2; have := HGN.out; have := HBL.out.2; omega))))
          have HSZ := Lib.hid (show ∀ W, Below base wr W → wr.heap.size ≤ W.heap.size from fun W h => h.size)
          have HBASE := Lib.hid hbase
          clear hA hO hP ht hBr hbase
          have hE4 : E ≤ 300000 := by have := HK.out.2.2.2; omega
          by_cases hlt : t2 < n
          · have hkn : ib < K2 := by have := hT2.out; have := HK.out.2.1; omega
            obtain ⟨px, hpx⟩ : ∃ x, x = natAt zs t2 4 := ⟨_, rfl⟩
            have HQ1 := Lib.hid (show ∀ W, Reads W p n zs → _ from fun W h => num_any p n c t2 4 zs W h hz (by omega) (by omega) rfl)
            rw [show ((4 : Nat) : Int) = 4 from rfl, ← hpx] at HQ1
            obtain ⟨q0, q1⟩ : 0 ≤ px ∧ px < 4294967296 := hpx ▸ natAt4 hz t2
            have HKN := Lib.hid (show ib < K2 ∧ ib ≤ 1000000 from ⟨hkn, by have := hT2.out; omega⟩)
            have HAPP := Lib.hid (show ∀ W9 a9 c9, W9.ownsRow base 22 1 (.slice a9 (ib + 1) c9) (ib + 1) ((numsAt zs E ib).map (Value.int .u32) ++ [.int .u32 px]) → Row32 base W9 a9 (ib + 1) c9 (numsAt zs E (ib + 1)) from by
              intro W9 a9 c9 h
              unfold Row32
              rw [numsAt_succ, ← hT2.out, ← hpx]
              simpa using h)
            have HOTH := Lib.hid (show ∀ W W9, Row32 base W b2 ib d2 (numsAt zs E ib) → RowP 79 base W a2 j c2 gs1 → W.grownBy W9 (Value.slice b2 ib d2).ownBlock → RowP 79 base W9 a2 j c2 gs1 from fun W W9 h1 h2 h3 => owns_other h2 h1 (by decide) h3)
            have HRB := Lib.hid (show ∀ k, (Value.slice b2 ib d2).ownBlock = some k → k < wr.heap.size from fun k hk => (World.ownsRow.lt HOr.out k hk).2)
            clear hpx hkn
            go_wp2_with fail
            refine wp_region_any (by kernel_rfl) ?_
            refine Vals.wpAny_goodLastL (GSd w wr g base px x0 x1 p n c ib t2 E a2 j c2 gs1 b2 d2 zs) (fun listed W => Below base wr W ∧ base ≤ W.heap.size ∧ (listed.getD 8 false = false → Row32 base W b2 ib d2 (numsAt zs E ib) ∧ RowP 79 base W a2 j c2 gs1)) [some 61, some 62, some 63, some 64, some 65, some 66, some 67, some 68, some 69, some 70, none] 10 79 _ _ rfl (by kernel_rfl) (by kernel_rfl) (by kernel_rfl) (by decide) rfl ?step11 ?fin11 ⟨(Below.refl _ _).drew, HBS.out, fun _ => ⟨owns_keep HOr.out (Below.of_drewN wr 1), owns_keep HPr.out (Below.of_drewN wr 1)⟩⟩
            case step11 =>
              intro i o d ho hd hiN listed a W hls hun hcl hJ hdf hdep hfr K hK
              match i, ho, hd with
              | 0, ho, hd =>
                have ho' := ho
                simp only [List.getElem?_toArray, List.getElem?_cons_zero, Option.some.injEq] at ho hd
                subst ho hd
                have r4 : a.eval (.tmp 4) = .pointer (some ⟨g, 0, none⟩) := hfr 4 (by decide)
                rw [Vals.eval_tmp] at r4
                refine Vals.wpOp_run ho' rfl ?_
                clear hdep hfr ho' hdf
                go_simp
                exact hK _ _ (fun _ _ _ _ h => h) ⟨hJ.1, hJ.2.1, fun h => hJ.2.2 (Vals.jlisted (i := 0) h (by decide))⟩ (fun _ => rfl)
              | 1, ho, hd =>
                have ho' := ho
                simp only [List.getElem?_toArray, List.getElem?_cons_zero, List.getElem?_cons_succ, Option.some.injEq] at ho hd
                subst ho hd
                have r61 : a.eval (.tmp 61) = .pointer (some ⟨g, 3, none⟩) := hdep ⟨0, .data⟩ (by simp) rfl 61 rfl
                rw [Vals.eval_tmp] at r61
                have c0 := (HAr.out.below hJ.1 HBL.out.2).cell (i := 3) rfl
                refine Vals.wpOp_run ho' rfl ?_
                clear hdep hfr ho' hdf
                go_simp
                exact hK _ _ (fun _ _ _ _ h => h) ⟨hJ.1, hJ.2.1, fun h => hJ.2.2 (Vals.jlisted (i := 1) h (by decide))⟩ (fun _ => rfl)
              | 2, ho, hd =>
                have ho' := ho
                simp only [List.getElem?_toArray, List.getElem?_cons_zero, List.getElem?_cons_succ, Option.some.injEq] at ho hd
                subst ho hd
                have r1 : a.eval (.tmp 1) = .pointer (some ⟨w.heap.size, 0, none⟩) := hfr 1 (by decide)
                rw [Vals.eval_tmp] at r1
                refine Vals.wpOp_run ho' rfl ?_
                clear hdep hfr ho' hdf
                go_simp
                exact hK _ _ (fun _ _ _ _ h => h) ⟨hJ.1, hJ.2.1, fun h => hJ.2.2 (Vals.jlisted (i := 2) h (by decide))⟩ (fun _ => rfl)
              | 3, ho, hd =>
                have ho' := ho
                simp only [List.getElem?_toArray, List.getElem?_cons_zero, List.getElem?_cons_succ, Option.some.injEq] at ho hd
                subst ho hd
                have r63 : a.eval (.tmp 63) = .pointer (some ⟨w.heap.size, 2, none⟩) := hdep ⟨2, .data⟩ (by simp) rfl 63 rfl
                rw [Vals.eval_tmp] at r63
                have c0 := (HCr.out.below hJ.1 HBL.out.1).cell (i := 2) rfl
                refine Vals.wpOp_run ho' rfl ?_
                clear hdep hfr ho' hdf
                go_simp
                exact hK _ _ (fun _ _ _ _ h => h) ⟨hJ.1, hJ.2.1, fun h => hJ.2.2 (Vals.jlisted (i := 3) h (by decide))⟩ (fun _ => rfl)
              | 4, ho, hd =>
                have ho' := ho
                simp only [List.getElem?_toArray, List.getElem?_cons_zero, List.getElem?_cons_succ, Option.some.injEq] at ho hd
                subst ho hd
                have r9 : a.eval (.tmp 9) = .int .i64 (t2 : Int) := hfr 9 (by decide)
                rw [Vals.eval_tmp] at r9
                refine Vals.wpOp_run ho' rfl ?_
                clear hdep hfr ho' hdf
                go_simp
                exact hK _ _ (fun _ _ _ _ h => h) ⟨hJ.1, hJ.2.1, fun h => hJ.2.2 (Vals.jlisted (i := 4) h (by decide))⟩ (fun _ => rfl)
              | 5, ho, hd =>
                have ho' := ho
                simp only [List.getElem?_toArray, List.getElem?_cons_zero, List.getElem?_cons_succ, Option.some.injEq] at ho hd
                subst ho hd
                have r64 : a.eval (.tmp 64) = .slice p n c := hdep ⟨3, .data⟩ (by simp) rfl 64 rfl
                rw [Vals.eval_tmp] at r64
                have r65 : a.eval (.tmp 65) = .int .i64 (t2 : Int) := hdep ⟨4, .data⟩ (by simp) rfl 65 rfl
                rw [Vals.eval_tmp] at r65
                refine Vals.wpOp_run ho' rfl ?_
                clear hdep hfr ho' hdf
                go_simp
                refine (HQ1.out W (HRX.out W hJ.1)).mono ?_
                rintro e w' ⟨rfl, rfl⟩
                exact hK _ _ (fun _ _ _ _ h => h) ⟨hJ.1, hJ.2.1, fun h => hJ.2.2 (Vals.jlisted (i := 5) h (by decide))⟩ (fun _ => rfl)
              | 6, ho, hd =>
                have ho' := ho
                simp only [List.getElem?_toArray, List.getElem?_cons_zero, List.getElem?_cons_succ, Option.some.injEq] at ho hd
                subst ho hd
                have r66 : a.eval (.tmp 66) = .int .u64 px := hdep ⟨5, .data⟩ (by simp) rfl 66 rfl
                rw [Vals.eval_tmp] at r66
                refine Vals.wpOp_run ho' rfl ?_
                clear hdep hfr ho' hdf
                go_simp
                exact hK _ _ (fun _ _ _ _ h => h) ⟨hJ.1, hJ.2.1, fun h => hJ.2.2 (Vals.jlisted (i := 6) h (by decide))⟩ (fun _ => (by first | rfl | exact congrArg (Value.int _) (Int.emod_eq_of_lt q0 q1)))
              | 7, ho, hd =>
                have ho' := ho
                simp only [List.getElem?_toArray, List.getElem?_cons_zero, List.getElem?_cons_succ, Option.some.injEq] at ho hd
                subst ho hd
                have r67 : a.eval (.tmp 67) = .int .u32 px := hdep ⟨6, .data⟩ (by simp) rfl 67 rfl
                rw [Vals.eval_tmp] at r67
                refine Vals.wpOp_run ho' rfl ?_
                clear hdep hfr ho' hdf
                go_simp
                have hb3 : Below W.heap.size W (W.alloc (.cells #[.int .u32 px] 22)) := (Below.refl _ _).alloc (Nat.le_refl _) _
                exact hK _ _ (fun j x _ _ h => GSd_mono hb3 j x h) ⟨hJ.1.trans (hb3.mono hJ.2.1), Nat.le_trans hJ.2.1 hb3.size, fun h => ⟨owns_keep ((hJ.2.2 (Vals.jlisted (i := 7) h (by decide)))).1 hb3, owns_keep ((hJ.2.2 (Vals.jlisted (i := 7) h (by decide)))).2 hb3⟩⟩ (fun _ => ⟨_, rfl, HSZ.out W hJ.1, arr_new _ _ _⟩)
              | 8, ho, hd =>
                have ho' := ho
                simp only [List.getElem?_toArray, List.getElem?_cons_zero, List.getElem?_cons_succ, Option.some.injEq] at ho hd
                subst ho hd
                have r62 : a.eval (.tmp 62) = .slice b2 ib d2 := hdep ⟨1, .data⟩ (by simp) rfl 62 rfl
                rw [Vals.eval_tmp] at r62
                have g68 : ∃ gs_68, a.eval (.tmp 68) = .slice (some ⟨gs_68, 0, none⟩) 1 1 ∧ wr.heap.size ≤ gs_68 ∧ Arr W gs_68 22 [.int .u32 px] := hdep ⟨7, .data⟩ (by simp) rfl 68 rfl
                rw [Vals.eval_tmp] at g68
                obtain ⟨gs_68, r68, h68_0, h68_1⟩ := g68
                obtain ⟨a9, c9, W9, hrun, H9⟩ := owns_append1 Try.infoU32 Try.underlying50 rfl (by decide) (by decide) (hJ.2.2 hun).1 hJ.2.1 (by have := HKN.out; omega) gs_68 [.int .u32 px] rfl h68_1 (by intro u hu; simp at hu; first | (rcases hu with rfl | rfl <;> rfl) | (subst hu; rfl))
                have hb9 : Below base W W9 := ⟨H9.out.2.os, H9.out.2.tape, H9.out.2.output, H9.out.2.size, fun k hk => H9.out.2.block k (Nat.lt_of_lt_of_le hk hJ.2.1) (fun e => by have := (World.ownsRow.lt (hJ.2.2 hun).1 k e.symm).1; omega)⟩
                have hrow9 := HAPP.out W9 a9 c9 H9.out.1
                have hoth9 := HOTH.out W W9 (hJ.2.2 hun).1 (hJ.2.2 hun).2 H9.out.2
                refine Vals.wpOp_run ho' rfl ?_
                clear hdep hfr ho' hdf
                refine Vals.oper_append_run (.tmp 62) (.tmp 68) 50 rfl _ _ _ W9 (by rw [Vals.eval_tmp]; exact r62) (by rw [Vals.eval_tmp]; exact r68) hrun ?_
                exact hK _ _ (fun jj x hlj hji h => GSd_app HRB.out H9.out.2 hji h) ⟨hJ.1.trans hb9, Nat.le_trans hJ.2.1 H9.out.2.size, fun h => (Vals.jself (by rw [hls]; decide) h).elim⟩ (fun _ => ⟨_, _, rfl, hrow9, hoth9⟩)
              | 9, ho, hd =>
                have ho' := ho
                simp only [List.getElem?_toArray, List.getElem?_cons_zero, List.getElem?_cons_succ, Option.some.injEq] at ho hd
                subst ho hd
                have r4 : a.eval (.tmp 4) = .pointer (some ⟨g, 0, none⟩) := hfr 4 (by decide)
                rw [Vals.eval_tmp] at r4
                refine Vals.wpOp_run ho' rfl ?_
                clear hdep hfr ho' hdf
                go_simp
                exact hK _ _ (fun _ _ _ _ h => h) ⟨hJ.1, hJ.2.1, fun h => hJ.2.2 (Vals.jlisted (i := 9) h (by decide))⟩ (fun _ => rfl)
              | ib + 10, ho, hd => omega
            case fin11 =>
              intro listed W fq hall hJ hG
              have q0 : fq 61 = .pointer (some ⟨g, 3, none⟩) := hG 0 61 rfl
              have q1 : fq 62 = .slice b2 ib d2 := hG 1 62 rfl
              have q2 : fq 63 = .pointer (some ⟨w.heap.size, 2, none⟩) := hG 2 63 rfl
              have q3 : fq 64 = .slice p n c := hG 3 64 rfl
              have q4 : fq 65 = .int .i64 (t2 : Int) := hG 4 65 rfl
              have q5 : fq 66 = .int .u64 px := hG 5 66 rfl
              have q6 : fq 67 = .int .u32 px := hG 6 67 rfl
              obtain ⟨gs_68, q7, hq68_0, hq68_1⟩ : ∃ gs_68, fq 68 = .slice (some ⟨gs_68, 0, none⟩) 1 1 ∧ wr.heap.size ≤ gs_68 ∧ Arr W gs_68 22 [.int .u32 px] := hG 7 68 rfl
              obtain ⟨a9_69, c9_69, q8, hq69_0, hq69_1⟩ : ∃ a9_69 c9_69, fq 69 = .slice a9_69 (ib + 1) c9_69 ∧ Row32 base W a9_69 (ib + 1) c9_69 (numsAt zs E (ib + 1)) ∧ RowP 79 base W a2 j c2 gs1 := hG 8 69 rfl
              have q9 : fq 70 = .pointer (some ⟨g, 3, none⟩) := hG 9 70 rfl
              clear hG hall
              refine Vals.wpOp_run rfl rfl ?_
              simp only [Vals.puts, Vals.pairs, List.filterMap_cons, List.filterMap_nil, id, List.map_cons, List.map_nil, List.foldl_cons, List.foldl_nil, q0, q1, q2, q3, q4, q5, q6, q7, q8, q9]
              clear q0 q1 q2 q3 q4 q5 q6 q7 q8 q9
              go_frame
              have hj1 : Below base wr W := hJ.1
              have hA5 := HAr.out.below hj1 HBL.out.2
              have ht5 : Turn [g] W4 W := ⟨hj1.os.trans HTr.out.os, hj1.tape.trans HTr.out.tape, hj1.output.trans HTr.out.output, Nat.le_trans HTr.out.size hj1.size, fun ii hi hn => (hj1.block ii (by rw [HBASE.out]; exact hi)).trans (HTr.out.block ii hi hn)⟩
              obtain ⟨w6, hw6⟩ : ∃ w6, W.setCell ⟨g, 3, none⟩ (.slice a9_69 (ib + 1) c9_69) = w6 := ⟨_, rfl⟩
              have hA6 : Arr w6 g 52 [.int .u32 x0, .int .u32 x1, .slice a2 j c2, .slice a9_69 (ib + 1) c9_69] := by rw [← hw6]; exact hA5.set 3 _
              have ht6 : Turn [g] W4 w6 := by rw [← hw6]; exact ht5.setCell (p := ⟨g, 3, none⟩) (by simp) _
              have hO6 : Row32 W4.heap.size w6 a9_69 (ib + 1) c9_69 (numsAt zs E (ib + 1)) := by rw [← hw6, ← HBASE.out]; exact Row32.setAt hq69_0 HBL.out.2 3 _
              have hP6 : RowP 79 W4.heap.size w6 a2 j c2 gs1 := by rw [← hw6, ← HBASE.out]; exact RowP.setAt hq69_1 HBL.out.2 3 _
              have fr := hA5.free 3
              have y1 := hA5.cell (i := 3) rfl
              have H6 := Lib.hid (And.intro hA6 (And.intro hO6 (And.intro hP6 ht6)))
              have HT6 := Lib.hid (show t2 + 4 = E + 4 * (ib + 1) by have := hT2.out; omega)
              clear hj1 hA5 ht5 hA6 ht6 hO6 hP6 hJ hq69_0 hq69_1 hq68_0 hq68_1
              go_simp
              go_wp2
              exact ⟨⟨ib + 1, t2 + 4, a9_69, c9_69, HKN.out.1, HT6, congrArg (Value.int .i64) (by omega), H6.out⟩, by simp [intOf]; omega⟩
          · have hiK : ib = K2 := by have := hT2.out; have := HK.out.2.1; omega
            have hds : ds1 = numsAt zs E ib := by rw [HGS.out.2, hiK]
            have hing : ∀ p ∈ gs1, InP p := by rw [HG1.out]; exact pairsAt_in hz 12 j
            have hind : ∀ z ∈ ds1, (Lit.int .u32 z).wf = true := by rw [hds]; exact numsAt_in hz E ib
            have hi6 : ib ≤ 1048576 := by have := hT2.out; have := HK.out.2.1; omega
            have hj6 : j ≤ 1048576 := by have := HK.out.1; have := HK.out.2.2.1; omega
            have hrd32 : Row32 base wr b2 ib d2 ds1 := by rw [hds]; exact HOr.out
            have HPG := Lib.hid (RowP.prs HPr.out hing)
            have HND := Lib.hid (Row32.nums hrd32 hind hi6)
            have HRR := Lib.hid (And.intro HPr.out (And.intro hrd32 (And.intro hing hind)))
            have HK1 := Lib.hid hj6
            have HK2 := Lib.hid hi6
            have HRW6 := Lib.hid (HRW.out wr HBr.out)
            have HC6 := HCr
            have HA6 := HAr
            have HZ6 := Lib.hid (HZ.out.keep HBr.out)
            have HBV := Lib.hid (HBE.out.1.trans (HBr.out.mono HBE.out.1.size))
            obtain ⟨vv, hvv⟩ : ∃ vv, vv = apartF 0 gs1 := ⟨_, rfl⟩
            have HVV := Lib.hid hvv
            obtain ⟨bb, hbb⟩ : ∃ bb, bb = (vv && eqC k f zs 3 0 (sackB x0 x1 gs1 ds1)) := ⟨_, rfl⟩
            have HBB := Lib.hid hbb
            obtain ⟨y0, hy0⟩ : ∃ y, y = (if bb = true then x0 else 0) := ⟨_, rfl⟩
            obtain ⟨y1, hy1⟩ : ∃ y, y = (if bb = true then x1 else 0) := ⟨_, rfl⟩
            obtain ⟨ya, hya⟩ : ∃ y, y = (if bb = true then a2 else none) := ⟨_, rfl⟩
            obtain ⟨yn, hyn⟩ : ∃ y, y = (if bb = true then j else 0) := ⟨_, rfl⟩
            obtain ⟨yc, hyc⟩ : ∃ y, y = (if bb = true then c2 else 0) := ⟨_, rfl⟩
            obtain ⟨yd, hyd⟩ : ∃ y, y = (if bb = true then b2 else none) := ⟨_, rfl⟩
            obtain ⟨ym, hym⟩ : ∃ y, y = (if bb = true then ib else 0) := ⟨_, rfl⟩
            obtain ⟨ye, hye⟩ : ∃ y, y = (if bb = true then d2 else 0) := ⟨_, rfl⟩
            obtain ⟨er, her⟩ : ∃ y : Int, y = (if bb = true then 0 else 7) := ⟨_, rfl⟩
            have HCK := Lib.hid (show ∀ W, Below wr.heap.size wr W → Calls Try.prog 64 #[.agg #[.int .u8 k, .int .u8 f, .slice p n c], .agg #[.int .u32 x0, .int .u32 x1, .slice a2 j c2, .slice b2 ib d2], .bool vv, .func (.func 29) #[] #[]] W fun e w' => Chose bb (.agg #[.int .u32 x0, .int .u32 x1, .slice a2 j c2, .slice b2 ib d2]) (.agg #[.int .u32 0, .int .u32 0, .slice none 0 0, .slice none 0 0]) e ∧ Below W.heap.size W w' from by
              intro W hW
              have h := checkedSack k f 3 0 p n c zs (sackB x0 x1 gs1 ds1) vv x0 x1 a2 j c2 b2 ib d2 W (HRW6.out.below hW) hz (sackB_byt _ _ _ _) (by omega) (by rw [sackB_len, HPG.out.1, HND.out.1]; omega)
                (fun W2 h2 => pputSack x0 x1 a2 j c2 gs1 b2 ib d2 ds1 W2 ((HPG.out.below hW (Nat.le_refl _)).below h2 (Nat.le_refl _)) ((HND.out.below hW (Nat.le_refl _)).below h2 (Nat.le_refl _)) hj6 hi6 lox0 hix0 lox1 hix1)
              rw [← hbb] at h
              exact h)
            have HYY := Lib.hid (show ∀ e, Chose bb (.agg #[.int .u32 x0, .int .u32 x1, .slice a2 j c2, .slice b2 ib d2]) (.agg #[.int .u32 0, .int .u32 0, .slice none 0 0, .slice none 0 0]) e → e = .returned (.tuple #[.agg #[.int .u32 y0, .int .u32 y1, .slice ya yn yc, .slice yd ym ye], .int .i64 er]) from by
              rintro e (⟨h1, rfl⟩ | ⟨h1, rfl⟩)
              · rw [hy0, hy1, hya, hyn, hyc, hyd, hym, hye, her]; simp [h1]
              · rw [hy0, hy1, hya, hyn, hyc, hyd, hym, hye, her]; simp [h1])
            have HST := Lib.hid (show ∀ W, Below wr.heap.size wr W → Arr (((((W.setCell ⟨w.heap.size + 1, 0, none⟩ (.int .u32 y0)).setCell ⟨w.heap.size + 1, 1, none⟩ (.int .u32 y1)).setCell ⟨w.heap.size + 1, 2, none⟩ (.slice ya yn yc)).setCell ⟨w.heap.size + 1, 3, none⟩ (.slice yd ym ye))) (w.heap.size + 1) 52 [.int .u32 y0, .int .u32 y1, .slice ya yn yc, .slice yd ym ye] ∧ Below w.heap.size w (((((W.setCell ⟨w.heap.size + 1, 0, none⟩ (.int .u32 y0)).setCell ⟨w.heap.size + 1, 1, none⟩ (.int .u32 y1)).setCell ⟨w.heap.size + 1, 2, none⟩ (.slice ya yn yc)).setCell ⟨w.heap.size + 1, 3, none⟩ (.slice yd ym ye))) ∧ Prs (((((W.setCell ⟨w.heap.size + 1, 0, none⟩ (.int .u32 y0)).setCell ⟨w.heap.size + 1, 1, none⟩ (.int .u32 y1)).setCell ⟨w.heap.size + 1, 2, none⟩ (.slice ya yn yc)).setCell ⟨w.heap.size + 1, 3, none⟩ (.slice yd ym ye))) a2 j gs1 ∧ Nums .u32 (((((W.setCell ⟨w.heap.size + 1, 0, none⟩ (.int .u32 y0)).setCell ⟨w.heap.size + 1, 1, none⟩ (.int .u32 y1)).setCell ⟨w.heap.size + 1, 2, none⟩ (.slice ya yn yc)).setCell ⟨w.heap.size + 1, 3, none⟩ (.slice yd ym ye))) b2 ib ds1 from by
              intro W hJ
              have hb1l : w.heap.size + 1 < base := by have := HBL.out.2; have := HGN.out; have := HBE.out.2; omega
              have r1 : RowP 79 base (((((W.setCell ⟨w.heap.size + 1, 0, none⟩ (.int .u32 y0)).setCell ⟨w.heap.size + 1, 1, none⟩ (.int .u32 y1)).setCell ⟨w.heap.size + 1, 2, none⟩ (.slice ya yn yc)).setCell ⟨w.heap.size + 1, 3, none⟩ (.slice yd ym ye))) a2 j c2 gs1 := (RowP.setAt (RowP.setAt (RowP.setAt (RowP.setAt (owns_keep HRR.out.1 hJ) hb1l 0 (.int .u32 y0)) hb1l 1 (.int .u32 y1)) hb1l 2 (.slice ya yn yc)) hb1l 3 (.slice yd ym ye))
              have r2 : Row32 base (((((W.setCell ⟨w.heap.size + 1, 0, none⟩ (.int .u32 y0)).setCell ⟨w.heap.size + 1, 1, none⟩ (.int .u32 y1)).setCell ⟨w.heap.size + 1, 2, none⟩ (.slice ya yn yc)).setCell ⟨w.heap.size + 1, 3, none⟩ (.slice yd ym ye))) b2 ib d2 ds1 := (Row32.setAt (Row32.setAt (Row32.setAt (Row32.setAt (owns_keep HRR.out.2.1 hJ) hb1l 0 (.int .u32 y0)) hb1l 1 (.int .u32 y1)) hb1l 2 (.slice ya yn yc)) hb1l 3 (.slice yd ym ye))
              exact ⟨(((((HZ6.out.keep hJ).set 0 (.int .u32 y0)).set 1 (.int .u32 y1)).set 2 (.slice ya yn yc)).set 3 (.slice yd ym ye)), (((((HBV.out.trans (hJ.mono HBV.out.size)).setCell (p := ⟨w.heap.size + 1, 0, none⟩) (by simp) (.int .u32 y0)).setCell (p := ⟨w.heap.size + 1, 1, none⟩) (by simp) (.int .u32 y1)).setCell (p := ⟨w.heap.size + 1, 2, none⟩) (by simp) (.slice ya yn yc)).setCell (p := ⟨w.heap.size + 1, 3, none⟩) (by simp) (.slice yd ym ye)), r1.prs hing, r2.nums hind hi6⟩)
            have HY := Lib.hid (And.intro hy0 (And.intro hy1 (And.intro hya (And.intro hyn (And.intro hyc (And.intro hyd (And.intro hym (And.intro hye her))))))))
            clear hiK hds hing hind hi6 hj6 hrd32 hvv hbb hy0 hy1 hya hyn hyc hyd hym hye her HOr HPr HRX HSZ
            go_wp2_with fail
            refine wp_region_any (by kernel_rfl) ?_
            refine Vals.wpAny_goodW (GSj w wr g k f x0 x1 y0 y1 er p n c a2 j c2 b2 ib d2 ya yn yc yd ym ye vv gs1 ds1) (fun l W => Vals.JR 8 (Below wr.heap.size wr W) (Arr W (w.heap.size + 1) 52 [.int .u32 y0, .int .u32 y1, .slice ya yn yc, .slice yd ym ye] ∧ Below w.heap.size w W ∧ Prs W a2 j gs1 ∧ Nums .u32 W b2 ib ds1) l) [some 71, some 72, some 73, some 74, some 75, some 76, some 77, some 78, none, some 3] 79 _ _ rfl (by kernel_rfl) (by kernel_rfl) (by decide) ?step12 ?fin12 ⟨fun _ => (Below.refl _ _).drew, fun h => by simp at h⟩
            case step12 =>
              intro i o d ho hd listed a W hls hun hcl hJ hdf hdep hfr K hK
              match i, ho, hd with
              | 0, ho, hd =>
                have ho' := ho
                simp only [List.getElem?_toArray, List.getElem?_cons_zero, Option.some.injEq] at ho hd
                subst ho hd
                have r1 : a.eval (.tmp 1) = .pointer (some ⟨w.heap.size, 0, none⟩) := hfr 1 (by decide)
                rw [Vals.eval_tmp] at r1
                have hq0 := Vals.jnot hun (fun h => hcl 8 _ rfl h ⟨0, .phase⟩ (by simp) rfl)
                replace hJ := hJ.1 hq0
                have c0 := (HC6.out.keep hJ).cell (i := 0) rfl
                have c1 := (HC6.out.keep hJ).cell (i := 1) rfl
                have c2 := (HC6.out.keep hJ).cell (i := 2) rfl
                refine Vals.wpOp_run ho' rfl ?_
                clear hdep hfr ho' hdf hcl
                go_simp
                exact hK _ _ (fun _ _ h => h) (Vals.jnew hq0 (by decide) hJ) (fun _ => rfl)
              | 1, ho, hd =>
                have ho' := ho
                simp only [List.getElem?_toArray, List.getElem?_cons_zero, List.getElem?_cons_succ, Option.some.injEq] at ho hd
                subst ho hd
                have r4 : a.eval (.tmp 4) = .pointer (some ⟨g, 0, none⟩) := hfr 4 (by decide)
                rw [Vals.eval_tmp] at r4
                have hq0 := Vals.jnot hun (fun h => hcl 8 _ rfl h ⟨1, .phase⟩ (by simp) rfl)
                replace hJ := hJ.1 hq0
                have c0 := (HA6.out.keep hJ).cell (i := 0) rfl
                have c1 := (HA6.out.keep hJ).cell (i := 1) rfl
                have c2 := (HA6.out.keep hJ).cell (i := 2) rfl
                have c3 := (HA6.out.keep hJ).cell (i := 3) rfl
                refine Vals.wpOp_run ho' rfl ?_
                clear hdep hfr ho' hdf hcl
                go_simp
                exact hK _ _ (fun _ _ h => h) (Vals.jnew hq0 (by decide) hJ) (fun _ => rfl)
              | 2, ho, hd =>
                have ho' := ho
                simp only [List.getElem?_toArray, List.getElem?_cons_zero, List.getElem?_cons_succ, Option.some.injEq] at ho hd
                subst ho hd
                have r4 : a.eval (.tmp 4) = .pointer (some ⟨g, 0, none⟩) := hfr 4 (by decide)
                rw [Vals.eval_tmp] at r4
                have hq0 := Vals.jnot hun (fun h => hcl 8 _ rfl h ⟨2, .phase⟩ (by simp) rfl)
                replace hJ := hJ.1 hq0
                refine Vals.wpOp_run ho' rfl ?_
                clear hdep hfr ho' hdf hcl
                go_simp
                exact hK _ _ (fun _ _ h => h) (Vals.jnew hq0 (by decide) hJ) (fun _ => rfl)
              | 3, ho, hd =>
                have ho' := ho
                simp only [List.getElem?_toArray, List.getElem?_cons_zero, List.getElem?_cons_succ, Option.some.injEq] at ho hd
                subst ho hd
                have r73 : a.eval (.tmp 73) = .pointer (some ⟨g, 2, none⟩) := (hdep ⟨2, .data⟩ (by simp) rfl).2 73 rfl
                rw [Vals.eval_tmp] at r73
                have hq0 := Vals.jnot hun (fun h => hcl 8 _ rfl h ⟨3, .phase⟩ (by simp) rfl)
                replace hJ := hJ.1 hq0
                have c0 := (HA6.out.keep hJ).cell (i := 2) rfl
                refine Vals.wpOp_run ho' rfl ?_
                clear hdep hfr ho' hdf hcl
                go_simp
                exact hK _ _ (fun _ _ h => h) (Vals.jnew hq0 (by decide) hJ) (fun _ => rfl)
              | 4, ho, hd =>
                have ho' := ho
                simp only [List.getElem?_toArray, List.getElem?_cons_zero, List.getElem?_cons_succ, Option.some.injEq] at ho hd
                subst ho hd
                have r74 : a.eval (.tmp 74) = .slice a2 j c2 := (hdep ⟨3, .data⟩ (by simp) rfl).2 74 rfl
                rw [Vals.eval_tmp] at r74
                have hq0 := Vals.jnot hun (fun h => hcl 8 _ rfl h ⟨4, .phase⟩ (by simp) rfl)
                replace hJ := hJ.1 hq0
                refine Vals.wpOp_run ho' rfl ?_
                clear hdep hfr ho' hdf hcl
                go_simp
                refine (areApart_any a2 j c2 gs1 W (HPG.out.below hJ (Nat.le_refl _)) HK1.out).mono ?_
                rintro e w' ⟨rfl, hb3⟩
                exact hK _ _ (GSj_mono hb3) (Vals.jnew hq0 (by decide) (hJ.trans (hb3.mono hJ.size))) (fun _ => by show Value.bool _ = Value.bool _; rw [HVV.out])
              | 5, ho, hd =>
                have ho' := ho
                simp only [List.getElem?_toArray, List.getElem?_cons_zero, List.getElem?_cons_succ, Option.some.injEq] at ho hd
                subst ho hd
                have r71 : a.eval (.tmp 71) = .agg #[.int .u8 k, .int .u8 f, .slice p n c] := (hdep ⟨0, .data⟩ (by simp) rfl).2 71 rfl
                rw [Vals.eval_tmp] at r71
                have r72 : a.eval (.tmp 72) = .agg #[.int .u32 x0, .int .u32 x1, .slice a2 j c2, .slice b2 ib d2] := (hdep ⟨1, .data⟩ (by simp) rfl).2 72 rfl
                rw [Vals.eval_tmp] at r72
                have r75 : a.eval (.tmp 75) = .bool vv := (hdep ⟨4, .data⟩ (by simp) rfl).2 75 rfl
                rw [Vals.eval_tmp] at r75
                have hq0 := Vals.jnot hun (fun h => hcl 8 _ rfl h ⟨5, .phase⟩ (by simp) rfl)
                replace hJ := hJ.1 hq0
                refine Vals.wpOp_run ho' rfl ?_
                clear hdep hfr ho' hdf hcl
                go_simp
                refine (HCK.out W hJ).mono ?_
                rintro e w' ⟨hch, hb3⟩
                obtain rfl := HYY.out e hch
                exact hK _ _ (GSj_mono hb3) (Vals.jnew hq0 (by decide) (hJ.trans (hb3.mono hJ.size))) (fun _ => rfl)
              | 6, ho, hd =>
                have ho' := ho
                simp only [List.getElem?_toArray, List.getElem?_cons_zero, List.getElem?_cons_succ, Option.some.injEq] at ho hd
                subst ho hd
                have r76 : a.eval (.tmp 76) = .tuple #[.agg #[.int .u32 y0, .int .u32 y1, .slice ya yn yc, .slice yd ym ye], .int .i64 er] := (hdep ⟨5, .data⟩ (by simp) rfl).2 76 rfl
                rw [Vals.eval_tmp] at r76
                have hq0 := Vals.jnot hun (fun h => hcl 8 _ rfl h ⟨6, .phase⟩ (by simp) rfl)
                replace hJ := hJ.1 hq0
                refine Vals.wpOp_run ho' rfl ?_
                clear hdep hfr ho' hdf hcl
                go_simp
                exact hK _ _ (fun _ _ h => h) (Vals.jnew hq0 (by decide) hJ) (fun _ => rfl)
              | 7, ho, hd =>
                have ho' := ho
                simp only [List.getElem?_toArray, List.getElem?_cons_zero, List.getElem?_cons_succ, Option.some.injEq] at ho hd
                subst ho hd
                have r76 : a.eval (.tmp 76) = .tuple #[.agg #[.int .u32 y0, .int .u32 y1, .slice ya yn yc, .slice yd ym ye], .int .i64 er] := (hdep ⟨5, .data⟩ (by simp) rfl).2 76 rfl
                rw [Vals.eval_tmp] at r76
                have hq0 := Vals.jnot hun (fun h => hcl 8 _ rfl h ⟨7, .phase⟩ (by simp) rfl)
                replace hJ := hJ.1 hq0
                refine Vals.wpOp_run ho' rfl ?_
                clear hdep hfr ho' hdf hcl
                go_simp
                exact hK _ _ (fun _ _ h => h) (Vals.jnew hq0 (by decide) hJ) (fun _ => rfl)
              | 8, ho, hd =>
                have ho' := ho
                simp only [List.getElem?_toArray, List.getElem?_cons_zero, List.getElem?_cons_succ, Option.some.injEq] at ho hd
                subst ho hd
                have r2 : a.eval (.tmp 2) = .pointer (some ⟨w.heap.size + 1, 0, none⟩) := hfr 2 (by decide)
                rw [Vals.eval_tmp] at r2
                have r77 : a.eval (.tmp 77) = .agg #[.int .u32 y0, .int .u32 y1, .slice ya yn yc, .slice yd ym ye] := (hdep ⟨6, .data⟩ (by simp) rfl).2 77 rfl
                rw [Vals.eval_tmp] at r77
                have hJ0 := hJ
                replace hJ := hJ.1 (Vals.getD_true_false hun)
                refine Vals.wpOp_run ho' rfl ?_
                clear hdep hfr ho' hdf hcl
                have hzz := HZ6.out.keep hJ
                have fr0 := hzz.free 0
                have fr1 := hzz.free 1
                have fr2 := hzz.free 2
                have fr3 := hzz.free 3
                have yy0 := hzz.cell (i := 0) rfl
                have yy1 := hzz.cell (i := 1) rfl
                have yy2 := hzz.cell (i := 2) rfl
                have yy3 := hzz.cell (i := 3) rfl
                go_simp
                exact hK (.slice none 0 0) _ GSj_any ⟨fun h => absurd (Vals.jself2 (by rw [hls]; decide) h) (fun h => h), fun _ => HST.out W hJ⟩ (fun h => by cases h)
              | 9, ho, hd =>
                have ho' := ho
                simp only [List.getElem?_toArray, List.getElem?_cons_zero, List.getElem?_cons_succ, Option.some.injEq] at ho hd
                subst ho hd
                have r78 : a.eval (.tmp 78) = .int .i64 er := (hdep ⟨7, .data⟩ (by simp) rfl).2 78 rfl
                rw [Vals.eval_tmp] at r78
                refine Vals.wpOp_run ho' rfl ?_
                clear hdep hfr ho' hdf hcl
                go_simp
                exact hK _ _ (fun _ _ h => h) (Vals.jkeep hJ (by decide)) (fun _ => rfl)
              | ib + 10, ho, hd => simp at ho
            case fin12 =>
              intro listed W fq hall hJ hG
              have hF := hJ.2 (hall 8 (by decide))
              have q0 : fq 71 = .agg #[.int .u8 k, .int .u8 f, .slice p n c] := hG 0 71 rfl
              have q1 : fq 72 = .agg #[.int .u32 x0, .int .u32 x1, .slice a2 j c2, .slice b2 ib d2] := hG 1 72 rfl
              have q2 : fq 73 = .pointer (some ⟨g, 2, none⟩) := hG 2 73 rfl
              have q3 : fq 74 = .slice a2 j c2 := hG 3 74 rfl
              have q4 : fq 75 = .bool vv := hG 4 75 rfl
              have q5 : fq 76 = .tuple #[.agg #[.int .u32 y0, .int .u32 y1, .slice ya yn yc, .slice yd ym ye], .int .i64 er] := hG 5 76 rfl
              have q6 : fq 77 = .agg #[.int .u32 y0, .int .u32 y1, .slice ya yn yc, .slice yd ym ye] := hG 6 77 rfl
              have q7 : fq 78 = .int .i64 er := hG 7 78 rfl
              have q9 : fq 3 = .int .i64 er := hG 9 3 rfl
              clear hG hall
              simp only [Vals.puts, Vals.pairs, List.filterMap_cons, List.filterMap_nil, id, List.map_cons, List.map_nil, List.foldl_cons, List.foldl_nil, q0, q1, q2, q3, q4, q5, q6, q7, q9]
              clear q0 q1 q2 q3 q4 q5 q6 q7 q9
              go_frame
              have zz0 := hF.1.cell (i := 0) rfl
              have zz1 := hF.1.cell (i := 1) rfl
              have zz2 := hF.1.cell (i := 2) rfl
              have zz3 := hF.1.cell (i := 3) rfl
              have HE := Lib.hid hF.2
              clear hF hJ HCK HST HZ6 HC6 HA6 HRW6 HBV HCr HAr
              go_wp2
              refine bodyPost_ret (by simp [results, Try.results30, go_sem, zz0, zz1, zz2, zz3] <;> rfl) rfl ?_
              obtain ⟨hy0, hy1, hya, hyn, hyc, hyd, hym, hye, her⟩ := HY.out
              have hvv := HVV.out
              have hbb := HBB.out
              rw [hvv] at hbb
              have hg1 := HPG.out.1
              have hd1 := HND.out.1
              refine ⟨a2, c2, b2, d2, ?_, HE.out.1, by rw [hg1]; exact HE.out.2.1, by rw [hd1]; exact HE.out.2.2⟩
              rw [hg1, hd1]
              cases bb with
              | false => exact .inr ⟨hbb.symm, by rw [hy0, hy1, hya, hyn, hyc, hyd, hym, hye, her]; rfl⟩
              | true => exact .inl ⟨hbb.symm, by rw [hy0, hy1, hya, hyn, hyc, hyd, hym, hye, her]; rfl⟩

end Go.Proofs.Ytlihcckgnnnekaa
