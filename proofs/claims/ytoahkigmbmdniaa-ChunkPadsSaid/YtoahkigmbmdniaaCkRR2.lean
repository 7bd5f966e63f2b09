/-
  The reference of layer 8: Read, where the length is within.
-/
import Derived.Test.YtoahkigmbmdniaaCkRR
import Derived.Test.YtoahkigmbmdniaaCutRun
namespace Go.Proofs.Ytoahkigmbmdniaa
open Go.RowKit
set_option linter.unusedVariables false

/-- What the reference's Read answers of these bytes. -/
def RefOk (zs : List Int) (w' : World) (e : Ending) : Prop :=
  (∃ (k f : Int) (body : List Int) (a : Option Addr), body.length ≤ 65531 ∧ encC k f body <+: zs ∧ e = .returned (.tuple #[.agg #[.int .u8 k, .int .u8 f, .slice a body.length body.length], .int .i64 (up4 (4 + body.length) : Nat), .int .i64 0]) ∧ Reads w' a body.length body) ∨
  (∀ (k f : Int) (body : List Int), body.length ≤ 65531 → ¬ encC k f body <+: zs) ∧ e = .returned noChunk

/-- What the operations of Read's drawn region leave behind. -/
def RG (w1 : World) (b off n c m : Nat) (L k0 k1 : Int) (zs : List Int) (i : Nat) (v : Value) (W : World) : Prop := match i with | 0 => v = .slice (some ⟨b, off, none⟩) n c | 1 => v = .pointer (some ⟨b, off, none⟩) | 2 => v = .int .u8 k0 | 3 => v = .slice (some ⟨b, off, none⟩) n c | 4 => v = .pointer (some ⟨b, off + 1, none⟩) | 5 => v = .int .u8 k1 | 6 => v = .slice (some ⟨b, off, none⟩) n c | 7 => v = .int .i64 L | 8 => ∃ a2 c2, v = .slice a2 m c2 ∧ Reads W a2 m ((zs.drop 4).take m) | 9 => ∃ a2, v = .slice a2 m m ∧ Row8 w1.heap.size W a2 m m ((zs.drop 4).take m) | 10 => ∃ a2, v = .agg #[.int .u8 k0, .int .u8 k1, .slice a2 m m] ∧ Row8 w1.heap.size W a2 m m ((zs.drop 4).take m) | 11 => ∃ g, v = .pointer (some ⟨g, 0, none⟩) ∧ w1.heap.size ≤ g ∧ Arr W g 24 [.int .u8 0, .int .u8 0, .slice none 0 0]  | _ => True
theorem gmono {w1 W W' : World} {b off n c m : Nat} {L k0 k1 : Int} {zs : List Int} (hb : Below W.heap.size W W') (j : Nat) (x : Value) (h : RG w1 b off n c m L k0 k1 zs j x W) : RG w1 b off n c m L k0 k1 zs j x W' := by
  unfold RG at h ⊢
  split at h <;> try exact h
  · obtain ⟨a2, c2, h1, h2⟩ := h
    exact ⟨a2, c2, h1, h2.below hb⟩
  · obtain ⟨a2, h1, h2⟩ := h
    exact ⟨a2, h1, h2.keep hb⟩
  · obtain ⟨a2, h1, h2⟩ := h
    exact ⟨a2, h1, h2.keep hb⟩
  · obtain ⟨g, h1, h2, h3⟩ := h
    exact ⟨g, h1, h2, h3.keep hb⟩
theorem Row8.ne_arr {base : Nat} {w : World} {a : Option Addr} {n c : Nat} {zs : List Int} (h : Row8 base w a n c zs) {g : Nat} {cs : List Value} (hA : Arr w g 24 cs) (p : Addr) (hp : a = some p) : p.block ≠ g := by
  rcases h.2 with ⟨hv, _⟩ | ⟨g', cap, cur, hv, hb, hg, _⟩
  · cases hv; cases hp
  · cases hv
    cases hp
    intro e
    simp only at e
    subst e
    unfold Arr at hA
    rw [hA] at hg
    simp at hg
theorem Reads.off {w : World} {a : Option Addr} {n : Nat} {zs : List Int} (h : Reads w a n zs) {q : Addr} (u : Value) (hne : ∀ p, a = some p → p.block ≠ q.block) : Reads (w.setCell q u) a n zs := by
  refine ⟨h.1, ?_⟩
  rcases h.2 with h2 | ⟨b, off, ha, hlt, hc⟩
  · exact .inl h2
  · refine .inr ⟨b, off, ha, by simpa [World.setCell] using hlt, fun i hi => ?_⟩
    have h1 : (w.setCell q u).heap[b]? = w.heap[b]? := Below.heap_setCell _ _ _ _ (hne _ ha)
    exact (World.cell?_of_block (w := w) (a := ⟨b, off + i, none⟩) h1).trans (hc i hi)

set_option maxRecDepth 100000 in
set_option maxHeartbeats 1600000 in
theorem rread_main (a : Option Addr) (n c m : Nat) (zs : List Int) (w : World) (hr : Reads w a n zs) (hb : Byt zs) (hc : n ≤ c) (hn : n ≤ 1099511627776) (hL : lenOf zs = 4 + (m : Int)) (hm : 4 + m ≤ n) :
    Calls Try.prog 19 #[.slice a n c] w fun e w' => RefOk zs w' e ∧ Below w.heap.size w w' := by
  obtain ⟨wB, hwB⟩ : ∃ wB, w.alloc (.cells #[.int .u8 0, .int .u8 0, .slice none 0 0] 24) = wB := ⟨_, rfl⟩
  have hbB : Below w.heap.size w wB := by rw [← hwB]; exact (Below.refl _ _).alloc (Nat.le_refl _) _
  have hcB : Arr wB w.heap.size 24 [.int .u8 0, .int .u8 0, .slice none 0 0] := by rw [← hwB]; exact arr_new _ _ _
  have hget := getR_yes a n c 2 2 zs wB (hr.below hbB) hb hc (by omega) rfl (by omega)
  rw [show num ((zs.drop 2).take 2) = lenOf zs from rfl] at hget
  obtain ⟨l1, l2⟩ := lenOf_in hb
  have l0 : ¬ lenOf zs < 4 := by omega
  have l3 : ¬ (n : Int) < lenOf zs := by omega
  have hlz : 4 ≤ zs.length := by rw [hr.1]; omega
  generalize hLz : lenOf zs = L at *
  have HL := Lib.hid (show L = ((4 + m : Nat) : Int) by omega)
  have HLz := Lib.hid (And.intro (hLz.trans hL) (And.intro hb hlz))
  have hm2 : m ≤ 65531 := by omega
  have HG := Lib.hid hget
  have HB := Lib.hid (And.intro hbB hcB)
  have HR0 := Lib.hid hr
  clear hget hr hb hbB hcB hL hLz hlz
  go_enter Try.func19, Try.ntmps19
  go_wp2_with fail
  refine HG.out.mono ?_
  rintro e w1 ⟨rfl, hb1⟩
  have hc1 := HB.out.2.keep hb1
  have hb1w := HB.out.1.trans (hb1.mono HB.out.1.size)
  have hr1 := HR0.out.below hb1w
  obtain ⟨b, off, rfl⟩ := hr1.some_of (by omega)
  have hcell : b < w1.heap.size ∧ ∀ j, j < n → w1.cell? ⟨b, off + j, none⟩ = some (.int .u8 (zs[j]?.getD 0)) := by
    rcases hr1.2 with h | ⟨b', off', e, hlt, h⟩
    · omega
    · cases e; exact ⟨hlt, h⟩
  have z0 : w1.cell? ⟨b, off, none⟩ = some (.int .u8 (zs[0]?.getD 0)) := hcell.2 0 (by omega)
  have z1 : w1.cell? ⟨b, off + 1, none⟩ = some (.int .u8 (zs[1]?.getD 0)) := hcell.2 1 (by omega)
  generalize hk0 : zs[0]?.getD 0 = k0 at *
  generalize hk1 : zs[1]?.getD 0 = k1 at *
  have HK := Lib.hid (And.intro hk0 hk1)
  have HC := Lib.hid (And.intro hcell.1 (And.intro z0 (And.intro z1 trivial)))
  have HR := Lib.hid (And.intro hr1 (And.intro hc1 hb1w))
  have n0 : (0 : Int) < (n : Int) := by omega
  have n1 : (1 : Int) < (n : Int) := by omega
  have m0 : 0 < n := by omega
  have m1 : 1 < n := by omega
  clear hk0 hk1 hcell z0 z1 hr1 hc1 hb1w hb1 HG HB hwB
  go_wp2_with fail
  refine wp_region_any (by kernel_rfl) ?_
  refine Vals.wpAny_goodLast (RG w1 b off n c m L k0 k1 zs) (fun W => Below w1.heap.size w1 W) [some 30, some 31, some 32, some 33, some 34, some 35, some 36, some 37, some 38, some 39, some 40, some 8, none] 12 61 _ _ rfl (by kernel_rfl) (by kernel_rfl) (by kernel_rfl) (by decide) rfl ?step ?fin (Below.refl _ _).drew
  case step =>
    intro i o d ho hd hiN a W hJ hdf hdep hfr K hK
    match i, ho, hd with
      | 0, ho, hd =>
        have ho' := ho
        simp only [List.getElem?_toArray, List.getElem?_cons_zero, Option.some.injEq] at ho hd
        subst ho hd
        have r0 : a.eval (.tmp 0) = .slice (some ⟨b, off, none⟩) n c := hfr 0 (by decide)
        rw [Vals.eval_tmp] at r0
        refine Vals.wpOp_run ho' rfl ?_
        clear hdep hfr ho' hdf
        go_simp
        exact hK _ _ (fun _ _ h => h) hJ (fun _ => rfl)
      | 1, ho, hd =>
        have ho' := ho
        simp only [List.getElem?_toArray, List.getElem?_cons_zero, List.getElem?_cons_succ, Option.some.injEq] at ho hd
        subst ho hd
        have r30 : a.eval (.tmp 30) = .slice (some ⟨b, off, none⟩) n c := hdep ⟨0, .data⟩ (by simp) rfl 30 rfl
        rw [Vals.eval_tmp] at r30
        refine Vals.wpOp_run ho' rfl ?_
        clear hdep hfr ho' hdf
        go_simp
        exact hK _ _ (fun _ _ h => h) hJ (fun _ => rfl)
      | 2, ho, hd =>
        have ho' := ho
        simp only [List.getElem?_toArray, List.getElem?_cons_zero, List.getElem?_cons_succ, Option.some.injEq] at ho hd
        subst ho hd
        have r31 : a.eval (.tmp 31) = .pointer (some ⟨b, off, none⟩) := hdep ⟨1, .data⟩ (by simp) rfl 31 rfl
        rw [Vals.eval_tmp] at r31
        have z0 := HC.out.2.1
        have hz0 : W.cell? ⟨b, off, none⟩ = some (.int .u8 k0) := (hJ.cell (p := ⟨b, off, none⟩) HC.out.1).trans z0
        refine Vals.wpOp_run ho' rfl ?_
        clear hdep hfr ho' hdf
        go_simp
        exact hK _ _ (fun _ _ h => h) hJ (fun _ => rfl)
      | 3, ho, hd =>
        have ho' := ho
        simp only [List.getElem?_toArray, List.getElem?_cons_zero, List.getElem?_cons_succ, Option.some.injEq] at ho hd
        subst ho hd
        have r0 : a.eval (.tmp 0) = .slice (some ⟨b, off, none⟩) n c := hfr 0 (by decide)
        rw [Vals.eval_tmp] at r0
        refine Vals.wpOp_run ho' rfl ?_
        clear hdep hfr ho' hdf
        go_simp
        exact hK _ _ (fun _ _ h => h) hJ (fun _ => rfl)
      | 4, ho, hd =>
        have ho' := ho
        simp only [List.getElem?_toArray, List.getElem?_cons_zero, List.getElem?_cons_succ, Option.some.injEq] at ho hd
        subst ho hd
        have r33 : a.eval (.tmp 33) = .slice (some ⟨b, off, none⟩) n c := hdep ⟨3, .data⟩ (by simp) rfl 33 rfl
        rw [Vals.eval_tmp] at r33
        refine Vals.wpOp_run ho' rfl ?_
        clear hdep hfr ho' hdf
        go_simp
        exact hK _ _ (fun _ _ h => h) hJ (fun _ => rfl)
      | 5, ho, hd =>
        have ho' := ho
        simp only [List.getElem?_toArray, List.getElem?_cons_zero, List.getElem?_cons_succ, Option.some.injEq] at ho hd
        subst ho hd
        have r34 : a.eval (.tmp 34) = .pointer (some ⟨b, off + 1, none⟩) := hdep ⟨4, .data⟩ (by simp) rfl 34 rfl
        rw [Vals.eval_tmp] at r34
        have z1 := HC.out.2.2.1
        have hz1 : W.cell? ⟨b, off + 1, none⟩ = some (.int .u8 k1) := (hJ.cell (p := ⟨b, off + 1, none⟩) HC.out.1).trans z1
        refine Vals.wpOp_run ho' rfl ?_
        clear hdep hfr ho' hdf
        go_simp
        exact hK _ _ (fun _ _ h => h) hJ (fun _ => rfl)
      | 6, ho, hd =>
        have ho' := ho
        simp only [List.getElem?_toArray, List.getElem?_cons_zero, List.getElem?_cons_succ, Option.some.injEq] at ho hd
        subst ho hd
        have r0 : a.eval (.tmp 0) = .slice (some ⟨b, off, none⟩) n c := hfr 0 (by decide)
        rw [Vals.eval_tmp] at r0
        refine Vals.wpOp_run ho' rfl ?_
        clear hdep hfr ho' hdf
        go_simp
        exact hK _ _ (fun _ _ h => h) hJ (fun _ => rfl)
      | 7, ho, hd =>
        have ho' := ho
        simp only [List.getElem?_toArray, List.getElem?_cons_zero, List.getElem?_cons_succ, Option.some.injEq] at ho hd
        subst ho hd
        have r7 : a.eval (.tmp 7) = .int .i64 L := hfr 7 (by decide)
        rw [Vals.eval_tmp] at r7
        refine Vals.wpOp_run ho' rfl ?_
        clear hdep hfr ho' hdf
        go_simp
        exact hK _ _ (fun _ _ h => h) hJ (fun _ => rfl)
      | 8, ho, hd =>
        have ho' := ho
        simp only [List.getElem?_toArray, List.getElem?_cons_zero, List.getElem?_cons_succ, Option.some.injEq] at ho hd
        subst ho hd
        have r36 : a.eval (.tmp 36) = .slice (some ⟨b, off, none⟩) n c := hdep ⟨6, .data⟩ (by simp) rfl 36 rfl
        rw [Vals.eval_tmp] at r36
        have r37 : a.eval (.tmp 37) = .int .i64 L := hdep ⟨7, .data⟩ (by simp) rfl 37 rfl
        rw [Vals.eval_tmp] at r37
        have hcut := cut_lh (some ⟨b, off, none⟩) n c 4 (4 + m) (by omega) (by omega) W
        rw [show (((4 + m : Nat)) : Int) = L from HL.out.symm, show ((4 : Nat) : Int) = 4 from rfl, show 4 + m - 4 = m by omega] at hcut
        have hrd := reads_cut (HR.out.1.below hJ) 4 (4 + m) (by omega) (by omega) hc
        rw [show 4 + m - 4 = m by omega] at hrd
        refine Vals.wpOp_run ho' rfl ?_
        clear hdep hfr ho' hdf
        go_simp
        exact hK _ _ (fun _ _ h => h) hJ (fun _ => ⟨_, _, rfl, hrd⟩)
      | 9, ho, hd =>
        have ho' := ho
        simp only [List.getElem?_toArray, List.getElem?_cons_zero, List.getElem?_cons_succ, Option.some.injEq] at ho hd
        subst ho hd
        have g38 : ∃ a2 c2, (a.eval (.tmp 38)) = .slice a2 m c2 ∧ Reads W a2 m ((zs.drop 4).take m) := hdep ⟨8, .data⟩ (by simp) rfl 38 rfl
        rw [Vals.eval_tmp] at g38
        obtain ⟨a2, c2, r38, hr2⟩ := g38
        refine Vals.wpOp_run ho' rfl ?_
        clear hdep hfr ho' hdf
        go_simp
        refine (copyBytes_any a2 m c2 _ W hr2 (by omega)).mono ?_
        rintro e w' ⟨a3, rfl, hb3, hk3⟩
        exact hK _ _ (gmono hb3) (hJ.trans (hb3.mono hJ.size)) (fun _ => ⟨_, rfl, hk3.lower hJ.size⟩)
      | 10, ho, hd =>
        have ho' := ho
        simp only [List.getElem?_toArray, List.getElem?_cons_zero, List.getElem?_cons_succ, Option.some.injEq] at ho hd
        subst ho hd
        have r32 : a.eval (.tmp 32) = .int .u8 k0 := hdep ⟨2, .data⟩ (by simp) rfl 32 rfl
        rw [Vals.eval_tmp] at r32
        have r35 : a.eval (.tmp 35) = .int .u8 k1 := hdep ⟨5, .data⟩ (by simp) rfl 35 rfl
        rw [Vals.eval_tmp] at r35
        have g39 : ∃ a2, (a.eval (.tmp 39)) = .slice a2 m m ∧ Row8 w1.heap.size W a2 m m ((zs.drop 4).take m) := hdep ⟨9, .data⟩ (by simp) rfl 39 rfl
        rw [Vals.eval_tmp] at g39
        obtain ⟨a2, r39, hr2⟩ := g39
        refine Vals.wpOp_run ho' rfl ?_
        clear hdep hfr ho' hdf
        go_simp
        exact hK _ _ (fun _ _ h => h) hJ (fun _ => ⟨_, rfl, hr2⟩)
      | 11, ho, hd =>
        have ho' := ho
        simp only [List.getElem?_toArray, List.getElem?_cons_zero, List.getElem?_cons_succ, Option.some.injEq] at ho hd
        subst ho hd
        refine Vals.wpOp_run ho' rfl ?_
        clear hdep hfr ho' hdf
        go_simp
        have hb3 : Below W.heap.size W (W.alloc (.cells #[.int .u8 0, .int .u8 0, .slice none 0 0] 24)) := (Below.refl _ _).alloc (Nat.le_refl _) _
        exact hK _ _ (gmono hb3) (hJ.trans (hb3.mono hJ.size)) (fun _ => ⟨_, rfl, hJ.size, arr_new _ _ _⟩)
      | i + 12, ho, hd => omega
  case fin =>
    intro W f hJ hG
    have q0 : f 30 = .slice (some ⟨b, off, none⟩) n c := hG 0 30 rfl
    have q1 : f 31 = .pointer (some ⟨b, off, none⟩) := hG 1 31 rfl
    have q2 : f 32 = .int .u8 k0 := hG 2 32 rfl
    have q3 : f 33 = .slice (some ⟨b, off, none⟩) n c := hG 3 33 rfl
    have q4 : f 34 = .pointer (some ⟨b, off + 1, none⟩) := hG 4 34 rfl
    have q5 : f 35 = .int .u8 k1 := hG 5 35 rfl
    have q6 : f 36 = .slice (some ⟨b, off, none⟩) n c := hG 6 36 rfl
    have q7 : f 37 = .int .i64 L := hG 7 37 rfl
    obtain ⟨a8, c8, q8, r8⟩ : ∃ a2 c2, f 38 = .slice a2 m c2 ∧ Reads W a2 m ((zs.drop 4).take m) := hG 8 38 rfl
    obtain ⟨a9, q9, r9⟩ : ∃ a2, f 39 = .slice a2 m m ∧ Row8 w1.heap.size W a2 m m ((zs.drop 4).take m) := hG 9 39 rfl
    obtain ⟨a10, q10, r10⟩ : ∃ a2, f 40 = .agg #[.int .u8 k0, .int .u8 k1, .slice a2 m m] ∧ Row8 w1.heap.size W a2 m m ((zs.drop 4).take m) := hG 10 40 rfl
    obtain ⟨g, q11, hg, ha⟩ : ∃ g, f 8 = .pointer (some ⟨g, 0, none⟩) ∧ w1.heap.size ≤ g ∧ Arr W g 24 [.int .u8 0, .int .u8 0, .slice none 0 0] := hG 11 8 rfl
    clear hG
    refine Vals.wpOp_run rfl rfl ?_
    simp only [Vals.puts, Vals.pairs, List.filterMap_cons, List.filterMap_nil, id, List.map_cons, List.map_nil, List.foldl_cons, List.foldl_nil, q0, q1, q2, q3, q4, q5, q6, q7, q8, q9, q10, q11]
    clear q0 q1 q2 q3 q4 q5 q6 q7 q8 q9 q10 q11 r8 r9
    go_frame
    have f0 := ha.free 0
    have f1 := ha.free 1
    have f2 := ha.free 2
    have c0 := ha.cell (i := 0) rfl
    have c1 := ha.cell (i := 1) rfl
    have c2 := ha.cell (i := 2) rfl
    obtain ⟨W4, hW4⟩ : ∃ W4, ((W.setCell ⟨g, 0, none⟩ (.int .u8 k0)).setCell ⟨g, 1, none⟩ (.int .u8 k1)).setCell ⟨g, 2, none⟩ (.slice a10 m m) = W4 := ⟨_, rfl⟩
    have h4 := box3 ha (.int .u8 k0) (.int .u8 k1) (.slice a10 m m)
    have hb4 := below3 (hJ : Below w1.heap.size w1 W) hg (.int .u8 k0) (.int .u8 k1) (.slice a10 m m)
    have hne := fun p hp => r10.ne_arr ha p hp
    have hr4 := ((r10.reads.off (q := ⟨g, 0, none⟩) (.int .u8 k0) hne).off (q := ⟨g, 1, none⟩) (.int .u8 k1) hne).off (q := ⟨g, 2, none⟩) (.slice a10 m m) hne
    rw [hW4] at h4 hb4 hr4
    have H4 := Lib.hid (And.intro h4 (And.intro hb4 hr4))
    have hng : ∀ p, a10 = some p → w1.heap.size ≤ p.block := by
      intro p hp
      rcases r10.2 with ⟨hv, _⟩ | ⟨g', cap, cur, hv, hb, _⟩
      · cases hv; cases hp
      · cases hv; cases hp; exact hb
    have HNG := Lib.hid hng
    clear h4 hb4 hr4 hne ha hg hJ r10 hng
    go_simp
    have d0 := H4.out.1.cell (i := 0) rfl
    have d1 := H4.out.1.cell (i := 1) rfl
    have d2 := H4.out.1.cell (i := 2) rfl
    have hw := rwrite_yes k0 k1 a10 m m _ W4 H4.out.2.2 hm2
    generalize hU : up4 (4 + m) = U at hw
    have hUge : 4 + m ≤ U := by have := up4_ge (4 + m); omega
    have hUle : U ≤ 4 + m + 3 := by have := up4_le (4 + m); omega
    have HU := Lib.hid hU
    have HWr := Lib.hid hw
    clear hw hU hW4 f0 f1 f2 c0 c1 c2
    go_wp2_with fail
    refine HWr.out.mono ?_
    rintro e W5 ⟨a5, c5, rfl, hr5, hb5⟩
    have hb51 := H4.out.2.1.trans (hb5.mono H4.out.2.1.size)
    have hc5 := HR.out.2.1.keep hb51
    have hb5w := HR.out.2.2.trans (hb51.mono HR.out.2.2.size)
    have hr5r := hr5.reads
    have ha5 := (H4.out.1.keep hb5)
    have hzr := HR.out.1.below hb51
    by_cases hnu : n < U
    · have hnu2 : (n : Int) < (U : Int) := by omega
      clear d0 d1 d2
      have hno : ∀ (k f : Int) (body : List Int), body.length ≤ 65531 → ¬ encC k f body <+: zs := by
        intro k f body hl hp
        obtain ⟨p1, p2, p3, p4, p5, p6, p7⟩ := pre_parts hp hl
        have h1 := HLz.out.1
        have hlen : zs.length = n := HR.out.1.1
        have h6 : body.length = m := by omega
        rw [h6] at p3 p6
        have hUU := HU.out
        omega
      have f0 := hc5.free 0
      have f1 := hc5.free 1
      have f2 := hc5.free 2
      have c0 := hc5.cell (i := 0) rfl
      have c1 := hc5.cell (i := 1) rfl
      have c2 := hc5.cell (i := 2) rfl
      have hend := box3 hc5 (.int .u8 0) (.int .u8 0) (.slice none 0 0)
      have hbl := below3 hb5w (Nat.le_refl _) (.int .u8 0) (.int .u8 0) (.slice none 0 0) (g := w.heap.size)
      have HE := Lib.hid (And.intro hend (And.intro hbl hno))
      clear hend hbl hno hc5 hb5w
      go_wp2_with fail
      have d0 := HE.out.1.cell (i := 0) rfl
      have d1 := HE.out.1.cell (i := 1) rfl
      have d2 := HE.out.1.cell (i := 2) rfl
      have hbl := HE.out.2
      clear HE c0 c1 c2 f0 f1 f2
      generalize ((W5.setCell _ _).setCell _ _).setCell _ _ = W9 at *
      exact bodyPost_ret (by simp [results, Try.results19, go_sem, d0, d1, d2]; rfl) rfl ⟨.inr ⟨hbl.2, rfl⟩, hbl.1⟩
    · have hnu2 : ¬ (n : Int) < (U : Int) := by omega
      have hcut := fun W => cut_h (some ⟨b, off, none⟩) n c U (by omega) W
      have hrc := reads_cut hzr 0 U (by omega) (by omega) hc
      rw [show U - 0 = U from rfl, List.drop_zero] at hrc
      have heq := eqBytes_any a5 (cutA (some ⟨b, off, none⟩) 0 c) U c5 c U _ _ W5 hr5r hrc (encC_byt (by have := HLz.out.2.1.getD 0; rw [HK.out.1] at this; exact this.1) (by have := HLz.out.2.1.getD 0; rw [HK.out.1] at this; exact this.2) (by have := HLz.out.2.1.getD 1; rw [HK.out.2] at this; exact this.1) (by have := HLz.out.2.1.getD 1; rw [HK.out.2] at this; exact this.2) ((HLz.out.2.1.drop 4).take m)) (HLz.out.2.1.take U) (by omega) (by omega)
      by_cases hD : encC k0 k1 ((zs.drop 4).take m) = zs.take U
      · rw [show decide (encC k0 k1 ((zs.drop 4).take m) = zs.take U) = true from by simpa using hD] at heq
        have hpre : encC k0 k1 ((zs.drop 4).take m) <+: zs ∧ ((zs.drop 4).take m).length = m := by
          have hlen : zs.length = n := HR.out.1.1
          exact ⟨by rw [hD]; exact List.take_prefix _ _, by simp; omega⟩
        have HEQ := Lib.hid heq
        have H5 := Lib.hid (And.intro hc5 (And.intro hb5w (And.intro ha5 (And.intro hpre (H4.out.2.2.below hb5)))))
        clear heq hD hpre hc5 hb5w ha5 hr5 hr5r hzr hrc hb5 hb51 d0 d1 d2
        go_wp2_with fail
        refine HEQ.out.mono ?_
        rintro e W6 ⟨rfl, hb6, _⟩
        have hc6 := H5.out.1.keep hb6
        have ha6 := H5.out.2.2.1.keep hb6
        have hb6w := H5.out.2.1.trans (hb6.mono H5.out.2.1.size)
        have hrd6 := H5.out.2.2.2.2.below hb6
        have e0 := ha6.cell (i := 0) rfl
        have e1 := ha6.cell (i := 1) rfl
        have e2 := ha6.cell (i := 2) rfl
        have f0 := hc6.free 0
        have f1 := hc6.free 1
        have f2 := hc6.free 2
        have c0 := hc6.cell (i := 0) rfl
        have c1 := hc6.cell (i := 1) rfl
        have c2 := hc6.cell (i := 2) rfl
        have hend := box3 hc6 (.int .u8 k0) (.int .u8 k1) (.slice a10 m m)
        have hbl := below3 hb6w (Nat.le_refl _) (.int .u8 k0) (.int .u8 k1) (.slice a10 m m) (g := w.heap.size)
        have hne : ∀ p, a10 = some p → p.block ≠ w.heap.size := fun p hp => by have := HNG.out p hp; have := HR.out.2.1.lt; omega
        have hre := ((hrd6.off (q := ⟨w.heap.size, 0, none⟩) (.int .u8 k0) hne).off (q := ⟨w.heap.size, 1, none⟩) (.int .u8 k1) hne).off (q := ⟨w.heap.size, 2, none⟩) (.slice a10 m m) hne
        have HE := Lib.hid (And.intro hend (And.intro hbl (And.intro hre H5.out.2.2.2.1)))
        clear hend hbl hre hne hc6 ha6 hb6w hrd6 hb6 HEQ
        go_wp2_with fail
        have d0 := HE.out.1.cell (i := 0) rfl
        have d1 := HE.out.1.cell (i := 1) rfl
        have d2 := HE.out.1.cell (i := 2) rfl
        obtain ⟨_, hbl, hre, hp1, hp2⟩ := HE.out
        clear HE c0 c1 c2 f0 f1 f2 e0 e1 e2
        generalize ((W6.setCell _ _).setCell _ _).setCell _ _ = W9 at *
        refine bodyPost_ret (by simp [results, Try.results19, go_sem, d0, d1, d2]; rfl) rfl ⟨.inl ⟨k0, k1, _, a10, by omega, hp1, ?_, by rw [hp2]; exact hre⟩, hbl⟩
        rw [hp2, HU.out]
      · rw [show decide (encC k0 k1 ((zs.drop 4).take m) = zs.take U) = false from by simpa using hD] at heq
        have HD := Lib.hid hD
        have hno : ∀ (k f : Int) (body : List Int), body.length ≤ 65531 → ¬ encC k f body <+: zs := by
          intro k f body hl hp
          obtain ⟨p1, p2, p3, p4, p5, p6, p7⟩ := pre_parts hp hl
          have h1 := HLz.out.1
          have hlen : zs.length = n := HR.out.1.1
          have h6 : body.length = m := by omega
          rw [h6] at p3 p6
          have hUU := HU.out
          have h8 := HD.out
          apply h8
          rw [← HK.out.1, ← HK.out.2, p4, p5, p6]
          obtain ⟨rest, hrest⟩ := hp
          have h9 := encC_len k f body
          rw [h6] at h9
          rw [← hrest, ← hUU, ← h9]
          simp
        have HEQ := Lib.hid heq
        have H5 := Lib.hid (And.intro hc5 (And.intro hb5w hno))
        clear heq hD hc5 hb5w ha5 hr5 hr5r hzr hrc hb5 hb51 d0 d1 d2 hno
        go_wp2_with fail
        refine HEQ.out.mono ?_
        rintro e W6 ⟨rfl, hb6, _⟩
        have hc5 := H5.out.1.keep hb6
        have hb5w := H5.out.2.1.trans (hb6.mono H5.out.2.1.size)
        have hno := H5.out.2.2
        clear H5 hb6 HEQ
        have f0 := hc5.free 0
        have f1 := hc5.free 1
        have f2 := hc5.free 2
        have c0 := hc5.cell (i := 0) rfl
        have c1 := hc5.cell (i := 1) rfl
        have c2 := hc5.cell (i := 2) rfl
        have hend := box3 hc5 (.int .u8 0) (.int .u8 0) (.slice none 0 0)
        have hbl := below3 hb5w (Nat.le_refl _) (.int .u8 0) (.int .u8 0) (.slice none 0 0) (g := w.heap.size)
        have HE := Lib.hid (And.intro hend (And.intro hbl hno))
        clear hend hbl hno hc5 hb5w
        go_wp2_with fail
        have d0 := HE.out.1.cell (i := 0) rfl
        have d1 := HE.out.1.cell (i := 1) rfl
        have d2 := HE.out.1.cell (i := 2) rfl
        have hbl := HE.out.2
        clear HE c0 c1 c2 f0 f1 f2
        generalize ((W6.setCell _ _).setCell _ _).setCell _ _ = W9 at *
        exact bodyPost_ret (by simp [results, Try.results19, go_sem, d0, d1, d2]; rfl) rfl ⟨.inr ⟨hbl.2, rfl⟩, hbl.1⟩
end Go.Proofs.Ytoahkigmbmdniaa
