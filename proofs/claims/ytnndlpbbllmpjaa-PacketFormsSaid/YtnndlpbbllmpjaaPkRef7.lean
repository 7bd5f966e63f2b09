/-
  Stage 10: the reference's Copy. Written by genpk7.py.
-/
import Derived.Test.YtnndlpbbllmpjaaPkSpec
import Derived.Test.YtnndlpbbllmpjaaMgA
import Derived.Deep.DeepCutAuto
namespace Go.Proofs.Ytnndlpbbllmpjaa
open Go.RowKit
set_option linter.unusedVariables false
set_option linter.unusedSimpArgs false
/-- What the operations of the drawn region leave behind. -/
def PkCp (w5 : World) (gB base : Nat) (r : Ck) (j : Nat) (a2 : Option Addr) (c2 : Nat) (M : List Ck) (i : Nat) (v : Value) (W : World) : Prop := match i with | 0 => v = .slice a2 j c2 | 1 => v = .pointer (some ⟨gB, 0, none⟩) | 2 => v = .int .u8 r.k | 3 => v = .pointer (some ⟨gB, 1, none⟩) | 4 => v = .int .u8 r.f | 5 => v = .pointer (some ⟨gB, 2, none⟩) | 6 => v = .slice r.a r.n r.c | 7 => ∃ a9, v = .slice a9 r.n r.n ∧ Row8 base W a9 r.n r.n r.zs | 8 => ∃ a9_25, v = .agg #[.int .u8 r.k, .int .u8 r.f, .slice a9_25 r.n r.n] ∧ Row8 base W a9_25 r.n r.n r.zs | 9 => ∃ gs a9, v = .slice (some ⟨gs, 0, none⟩) 1 1 ∧ gB < gs ∧ Arr W gs 41 [.int .u8 r.k, .int .u8 r.f, .slice a9 r.n r.n] ∧ Row8 base W a9 r.n r.n r.zs | 10 => ∃ aX cX aY, v = .slice aX (j + 1) cX ∧ RowC 0 base W aX (j + 1) cX (M ++ [(Ck.mk r.k r.f aY r.n r.n r.zs)]) | _ => True
theorem PkCp_mono {w5 : World} {gB base : Nat} {r : Ck} {j : Nat} {a2 : Option Addr} {c2 : Nat} {M : List Ck} {W W' : World} (hb : Below W.heap.size W W') (jo : Nat) (xo : Value) (h : PkCp w5 gB base r j a2 c2 M jo xo W) : PkCp w5 gB base r j a2 c2 M jo xo W' := by
  unfold PkCp at h ⊢
  split at h <;> try exact h
  · obtain ⟨a9, e0, h0_0⟩ := h
    exact ⟨a9, e0, h0_0.keep hb⟩
  · obtain ⟨a9_25, e0, h0_0⟩ := h
    exact ⟨a9_25, e0, h0_0.keep hb⟩
  · obtain ⟨gs, a9, e0, h0_0, h0_1, h0_2⟩ := h
    exact ⟨gs, a9, e0, h0_0, h0_1.keep hb, h0_2.keep hb⟩
  · obtain ⟨aX, cX, aY, e0, h0_0⟩ := h
    exact ⟨aX, cX, aY, e0, h0_0.keep hb⟩
theorem PkCp_app {w5 : World} {gB base : Nat} {r : Ck} {j : Nat} {a2 : Option Addr} {c2 : Nat} {M : List Ck} {W W9 : World} {jj : Nat} {x : Value} (hrow : RowC 0 base W a2 j c2 M) (hrb : ∀ k, (Value.slice a2 j c2).ownBlock = some k → k < gB) (hg : W.grownBy W9 (Value.slice a2 j c2).ownBlock) (hj : jj ≠ 10) (h : PkCp w5 gB base r j a2 c2 M jj x W) : PkCp w5 gB base r j a2 c2 M jj x W9 := by
  have h8 : ∀ {a9 : Option Addr}, Row8 base W a9 r.n r.n r.zs → Row8 base W9 a9 r.n r.n r.zs := fun h => h.keep_of (fun g ha hb cs hk => hg.block g (Array.getElem?_eq_some_iff.1 hk).1 (hrow.apart (r := ⟨0, 0, some ⟨g, 0, none⟩, 1, 1, []⟩) (fun _ p hp => by cases hp; exact .inr ⟨cs, hk⟩) Nat.one_pos rfl))
  unfold PkCp at h ⊢
  split at h <;> first | exact h | exact absurd rfl hj | skip
  · obtain ⟨a9, e0, h0⟩ := h
    exact ⟨a9, e0, h8 h0⟩
  · obtain ⟨a9, e0, h0⟩ := h
    exact ⟨a9, e0, h8 h0⟩
  · obtain ⟨gs, a9, e0, h0, h1, h2⟩ := h
    exact ⟨gs, a9, e0, h0, (hg.block gs h1.lt (fun e => by have := hrb gs e.symm; omega)).trans h1, h8 h2⟩

set_option maxRecDepth 100000 in
set_option maxHeartbeats 1600000 in
theorem rcopyP_any (tag : Int) (aq : Option Addr) (n c : Nat) (L : List Ck) (w : World) (h : RowsCk w aq n c L) (hn : n ≤ 1048575) (hbd : ∀ r ∈ L, r.n ≤ 140737488355328) :
    Calls Try.prog 13 #[.agg #[.int .u32 tag, .slice aq n c]] w fun e w' => ∃ a' c' M, e = .returned (.agg #[.int .u32 tag, .slice a' n c']) ∧ Below w.heap.size w w' ∧ RowC 0 (w.heap.size + 2) w' a' n c' M ∧ pcs M = pcs L := by
  obtain ⟨w1, hw1⟩ : ∃ w1, w.alloc (.cells #[.int .u32 tag, .slice aq n c] 25) = w1 := ⟨_, rfl⟩
  have hb1 : Below w.heap.size w w1 := by rw [← hw1]; exact (Below.refl _ _).alloc (Nat.le_refl _) _
  have hs1 : w1.heap.size = w.heap.size + 1 := by rw [← hw1]; simp
  have hA1 : Arr w1 w.heap.size 25 [.int .u32 tag, .slice aq n c] := by rw [← hw1]; exact arr_new _ _ _
  obtain ⟨w2, hw2⟩ : ∃ w2, w1.alloc (.cells #[.int .u32 0, .slice none 0 0] 25) = w2 := ⟨_, rfl⟩
  have hb2 : Below w1.heap.size w1 w2 := by rw [← hw2]; exact (Below.refl _ _).alloc (Nat.le_refl _) _
  have hs2 : w2.heap.size = w.heap.size + 2 := by rw [← hw2]; simp; omega
  have hZ2 : Arr w2 (w.heap.size + 1) 25 [.int .u32 0, .slice none 0 0] := by rw [← hw2, ← hs1]; exact arr_new _ _ _
  have HA := Lib.hid (hA1.keep hb2)
  have HZ := Lib.hid hZ2
  have HB := Lib.hid (hb1.trans (hb2.mono hb1.size))
  have HS := Lib.hid hs2
  have HROWS := Lib.hid h
  have HBD := Lib.hid hbd
  have HN := Lib.hid hn
  clear hb1 hA1 hb2 hs2 hZ2 h hbd
  go_enter Try.func13, Try.ntmps13
  go_wp2_with fail
  go_loopw [3, 4] (fun v ii wr => ∃ (j : Nat) (a2 : Option Addr) (c2 : Nat) (M : List Ck), j ≤ n ∧ v = .slice a2 j c2 ∧ ii = .int .i64 (j : Int) ∧ RowC 0 w2.heap.size wr a2 j c2 M ∧ pcs M = (pcs L).take j ∧ Below w2.heap.size w2 wr) (fun _ ii _ => n - (intOf ii).toNat)
  case atStart => exact ⟨0, none, 0, [], Nat.zero_le _, rfl, rfl, RowC.nil _ _ (Nat.zero_le _) _, rfl, Below.refl _ _⟩
  case round =>
    obtain ⟨j, a2, c2, M, hj, rfl, rfl, hrow, hM, hbw⟩ := hrel
    have HROW := Lib.hid hrow
    have HM := Lib.hid hM
    have HBW := Lib.hid hbw
    have HAW := Lib.hid (HA.out.keep hbw)
    have d0 := HAW.out.cell (i := 0) rfl
    have d1 := HAW.out.cell (i := 1) rfl
    have hrw := HROWS.out.below (HB.out.trans (hbw.mono HB.out.size))
    clear hrow hM hbw
    by_cases hjn : j < n
    · skip
      obtain ⟨bq, oq, r, hq, hr, hck, e0, e1, e2⟩ := hrw.get hjn
      subst hq
      have hji : (j : Int) < (n : Int) := by omega
      have HCK := Lib.hid hck
      have HR := Lib.hid hr
      clear hck hr hrw
      skip
      have HRL := Lib.hid (HBD.out r (List.mem_of_getElem? HR.out))
      have HRB := Lib.hid (show ∀ k, (Value.slice a2 j c2).ownBlock = some k → k < wr.heap.size from fun k hk => (World.ownsRow.lt HROW.out.own k hk).2)
      have HJN := Lib.hid (show j ≤ 1048576 by have := HN.out; omega)
      have hb5 : Below wr.heap.size wr (wr.alloc (.cells #[.int .u8 r.k, .int .u8 r.f, .slice r.a r.n r.c] 41)) := (Below.refl _ _).alloc (Nat.le_refl _) _
      have hA5 : Arr (wr.alloc (.cells #[.int .u8 r.k, .int .u8 r.f, .slice r.a r.n r.c] 41)) wr.heap.size 41 [.int .u8 r.k, .int .u8 r.f, .slice r.a r.n r.c] := arr_new _ _ _
      have HROW5 := Lib.hid (HROW.out.keep hb5)
      have HA5 := Lib.hid hA5
      have HB5 := Lib.hid (HBW.out.trans (hb5.mono HBW.out.size))
      have hs5 : (wr.alloc (.cells #[.int .u8 r.k, .int .u8 r.f, .slice r.a r.n r.c] 41)).heap.size = wr.heap.size + 1 := by simp
      have HCK5 := Lib.hid (HCK.out.below hb5)
      go_upto_region 6 with fail
      clear e0 e1 e2 d0 d1 hb5 hA5
      generalize (wr.alloc (.cells #[.int .u8 r.k, .int .u8 r.f, .slice r.a r.n r.c] 41)) = w5 at *
      generalize wr.heap.size = gB at *
      obtain ⟨base, hbase⟩ : ∃ base, base = w2.heap.size := ⟨_, rfl⟩
      rw [← hbase] at HROW5 HB5
      have HBASE := Lib.hid hbase
      clear hbase HROW HBW HAW
      have HBS := Lib.hid (show base ≤ w5.heap.size by rw [HBASE.out]; exact HB5.out.size)
      have HSZ := Lib.hid (show ∀ W, Below base w5 W → gB < W.heap.size from fun W h => by have := h.size; omega)
      have HRX := Lib.hid (show ∀ W, Below base w5 W → Reads W r.a r.n r.zs from fun W h => ((HROWS.out.row r (List.mem_of_getElem? HR.out)).below (HB.out.trans ((HB5.out.trans h).mono (by rw [HBASE.out]; exact HB.out.size)))).reads)
      refine wp_region_any (by kernel_rfl) ?_
      refine Vals.wpAny_goodLastS (PkCp w5 gB base r j a2 c2 M) (fun listed W => Below base w5 W ∧ base ≤ W.heap.size ∧ (listed.getD 10 false = false → RowC 0 base W a2 j c2 M) ∧ Arr W gB 41 [.int .u8 r.k, .int .u8 r.f, .slice r.a r.n r.c]) [some 18, some 19, some 20, some 21, some 22, some 23, some 24, some 25, some 26, some 27, some 28] 11 33 _ _ rfl (by kernel_rfl) (by kernel_rfl) (by kernel_rfl) (by decide) ?step ?fin ⟨(Below.refl _ _).drew, HBS.out, fun _ => HROW5.out.keep (Below.of_drewN w5 1), HA5.out.keep (Below.of_drewN w5 1)⟩
      case step =>
        intro i o d ho hd hiN listed a W hls hun hcl hJ hdf hdep hfr K hK
        match i, ho, hd with
        | 0, ho, hd =>
          have ho' := ho
          simp only [List.getElem?_toArray, List.getElem?_cons_zero, Option.some.injEq] at ho hd
          subst ho hd
          have r3 : a.eval (.tmp 3) = .slice a2 j c2 := hfr 3 (by decide)
          rw [Vals.eval_tmp] at r3
          refine Vals.wpOp_run ho' rfl ?_
          clear hdep hfr ho' hdf
          go_simp
          exact hK _ _ (fun _ _ _ _ h => h) ⟨hJ.1, hJ.2.1, fun h => hJ.2.2.1 (Vals.jlisted (i := 0) h (by decide)), hJ.2.2.2⟩ (fun _ => rfl)
        | 1, ho, hd =>
          have ho' := ho
          simp only [List.getElem?_toArray, List.getElem?_cons_zero, List.getElem?_cons_succ, Option.some.injEq] at ho hd
          subst ho hd
          have r5 : a.eval (.tmp 5) = .pointer (some ⟨gB, 0, none⟩) := hfr 5 (by decide)
          rw [Vals.eval_tmp] at r5
          refine Vals.wpOp_run ho' rfl ?_
          clear hdep hfr ho' hdf
          go_simp
          exact hK _ _ (fun _ _ _ _ h => h) ⟨hJ.1, hJ.2.1, fun h => hJ.2.2.1 (Vals.jlisted (i := 1) h (by decide)), hJ.2.2.2⟩ (fun _ => rfl)
        | 2, ho, hd =>
          have ho' := ho
          simp only [List.getElem?_toArray, List.getElem?_cons_zero, List.getElem?_cons_succ, Option.some.injEq] at ho hd
          subst ho hd
          have r19 : a.eval (.tmp 19) = .pointer (some ⟨gB, 0, none⟩) := hdep ⟨1, .data⟩ (by simp) rfl 19 rfl
          rw [Vals.eval_tmp] at r19
          have c0 := hJ.2.2.2.cell (i := 0) rfl
          refine Vals.wpOp_run ho' rfl ?_
          clear hdep hfr ho' hdf
          go_simp
          exact hK _ _ (fun _ _ _ _ h => h) ⟨hJ.1, hJ.2.1, fun h => hJ.2.2.1 (Vals.jlisted (i := 2) h (by decide)), hJ.2.2.2⟩ (fun _ => rfl)
        | 3, ho, hd =>
          have ho' := ho
          simp only [List.getElem?_toArray, List.getElem?_cons_zero, List.getElem?_cons_succ, Option.some.injEq] at ho hd
          subst ho hd
          have r5 : a.eval (.tmp 5) = .pointer (some ⟨gB, 0, none⟩) := hfr 5 (by decide)
          rw [Vals.eval_tmp] at r5
          refine Vals.wpOp_run ho' rfl ?_
          clear hdep hfr ho' hdf
          go_simp
          exact hK _ _ (fun _ _ _ _ h => h) ⟨hJ.1, hJ.2.1, fun h => hJ.2.2.1 (Vals.jlisted (i := 3) h (by decide)), hJ.2.2.2⟩ (fun _ => rfl)
        | 4, ho, hd =>
          have ho' := ho
          simp only [List.getElem?_toArray, List.getElem?_cons_zero, List.getElem?_cons_succ, Option.some.injEq] at ho hd
          subst ho hd
          have r21 : a.eval (.tmp 21) = .pointer (some ⟨gB, 1, none⟩) := hdep ⟨3, .data⟩ (by simp) rfl 21 rfl
          rw [Vals.eval_tmp] at r21
          have c0 := hJ.2.2.2.cell (i := 1) rfl
          refine Vals.wpOp_run ho' rfl ?_
          clear hdep hfr ho' hdf
          go_simp
          exact hK _ _ (fun _ _ _ _ h => h) ⟨hJ.1, hJ.2.1, fun h => hJ.2.2.1 (Vals.jlisted (i := 4) h (by decide)), hJ.2.2.2⟩ (fun _ => rfl)
        | 5, ho, hd =>
          have ho' := ho
          simp only [List.getElem?_toArray, List.getElem?_cons_zero, List.getElem?_cons_succ, Option.some.injEq] at ho hd
          subst ho hd
          have r5 : a.eval (.tmp 5) = .pointer (some ⟨gB, 0, none⟩) := hfr 5 (by decide)
          rw [Vals.eval_tmp] at r5
          refine Vals.wpOp_run ho' rfl ?_
          clear hdep hfr ho' hdf
          go_simp
          exact hK _ _ (fun _ _ _ _ h => h) ⟨hJ.1, hJ.2.1, fun h => hJ.2.2.1 (Vals.jlisted (i := 5) h (by decide)), hJ.2.2.2⟩ (fun _ => rfl)
        | 6, ho, hd =>
          have ho' := ho
          simp only [List.getElem?_toArray, List.getElem?_cons_zero, List.getElem?_cons_succ, Option.some.injEq] at ho hd
          subst ho hd
          have r23 : a.eval (.tmp 23) = .pointer (some ⟨gB, 2, none⟩) := hdep ⟨5, .data⟩ (by simp) rfl 23 rfl
          rw [Vals.eval_tmp] at r23
          have c0 := hJ.2.2.2.cell (i := 2) rfl
          refine Vals.wpOp_run ho' rfl ?_
          clear hdep hfr ho' hdf
          go_simp
          exact hK _ _ (fun _ _ _ _ h => h) ⟨hJ.1, hJ.2.1, fun h => hJ.2.2.1 (Vals.jlisted (i := 6) h (by decide)), hJ.2.2.2⟩ (fun _ => rfl)
        | 7, ho, hd =>
          have ho' := ho
          simp only [List.getElem?_toArray, List.getElem?_cons_zero, List.getElem?_cons_succ, Option.some.injEq] at ho hd
          subst ho hd
          have r24 : a.eval (.tmp 24) = .slice r.a r.n r.c := hdep ⟨6, .data⟩ (by simp) rfl 24 rfl
          rw [Vals.eval_tmp] at r24
          refine Vals.wpOp_run ho' rfl ?_
          clear hdep hfr ho' hdf
          go_simp
          refine (copyBytes_any r.a r.n r.c r.zs W (HRX.out W hJ.1) HRL.out).mono ?_
          rintro e w' ⟨a9, rfl, hb3, hr3⟩
          exact hK _ _ (fun j x _ _ h => PkCp_mono hb3 j x h) ⟨hJ.1.trans (hb3.mono hJ.2.1), Nat.le_trans hJ.2.1 hb3.size, fun h => (hJ.2.2.1 (Vals.jlisted (i := 7) h (by decide))).keep hb3, hJ.2.2.2.keep hb3⟩ (fun _ => ⟨_, rfl, hr3.lower hJ.2.1⟩)
        | 8, ho, hd =>
          have ho' := ho
          simp only [List.getElem?_toArray, List.getElem?_cons_zero, List.getElem?_cons_succ, Option.some.injEq] at ho hd
          subst ho hd
          have r20 : a.eval (.tmp 20) = .int .u8 r.k := hdep ⟨2, .data⟩ (by simp) rfl 20 rfl
          rw [Vals.eval_tmp] at r20
          have r22 : a.eval (.tmp 22) = .int .u8 r.f := hdep ⟨4, .data⟩ (by simp) rfl 22 rfl
          rw [Vals.eval_tmp] at r22
          have g25 : ∃ a9_25, a.eval (.tmp 25) = .slice a9_25 r.n r.n ∧ Row8 base W a9_25 r.n r.n r.zs := hdep ⟨7, .data⟩ (by simp) rfl 25 rfl
          rw [Vals.eval_tmp] at g25
          obtain ⟨a9_25, r25, h25_0⟩ := g25
          refine Vals.wpOp_run ho' rfl ?_
          clear hdep hfr ho' hdf
          go_simp
          exact hK _ _ (fun _ _ _ _ h => h) ⟨hJ.1, hJ.2.1, fun h => hJ.2.2.1 (Vals.jlisted (i := 8) h (by decide)), hJ.2.2.2⟩ (fun _ => ⟨_, rfl, h25_0⟩)
        | 9, ho, hd =>
          have ho' := ho
          simp only [List.getElem?_toArray, List.getElem?_cons_zero, List.getElem?_cons_succ, Option.some.injEq] at ho hd
          subst ho hd
          have g26 : ∃ a9_26, a.eval (.tmp 26) = .agg #[.int .u8 r.k, .int .u8 r.f, .slice a9_26 r.n r.n] ∧ Row8 base W a9_26 r.n r.n r.zs := hdep ⟨8, .data⟩ (by simp) rfl 26 rfl
          rw [Vals.eval_tmp] at g26
          obtain ⟨a9_26, r26, h26_0⟩ := g26
          refine Vals.wpOp_run ho' rfl ?_
          clear hdep hfr ho' hdf
          go_simp
          have hb3 : Below W.heap.size W (W.alloc (.cells #[.int .u8 r.k, .int .u8 r.f, .slice a9_26 r.n r.n] 41)) := (Below.refl _ _).alloc (Nat.le_refl _) _
          exact hK _ _ (fun j x _ _ h => PkCp_mono hb3 j x h) ⟨hJ.1.trans (hb3.mono hJ.2.1), Nat.le_trans hJ.2.1 hb3.size, fun h => (hJ.2.2.1 (Vals.jlisted (i := 9) h (by decide))).keep hb3, hJ.2.2.2.keep hb3⟩ (fun _ => ⟨_, _, rfl, HSZ.out W hJ.1, arr_new _ _ _, h26_0.keep hb3⟩)
        | 10, ho, hd =>
          have ho' := ho
          simp only [List.getElem?_toArray, List.getElem?_cons_zero, List.getElem?_cons_succ, Option.some.injEq] at ho hd
          subst ho hd
          have r18 : a.eval (.tmp 18) = .slice a2 j c2 := hdep ⟨0, .data⟩ (by simp) rfl 18 rfl
          rw [Vals.eval_tmp] at r18
          have g27 : ∃ gs_27 a9_27, a.eval (.tmp 27) = .slice (some ⟨gs_27, 0, none⟩) 1 1 ∧ gB < gs_27 ∧ Arr W gs_27 41 [.int .u8 r.k, .int .u8 r.f, .slice a9_27 r.n r.n] ∧ Row8 base W a9_27 r.n r.n r.zs := hdep ⟨9, .data⟩ (by simp) rfl 27 rfl
          rw [Vals.eval_tmp] at g27
          obtain ⟨gs_27, a9_27, r27, h27_0, h27_1, h27_2⟩ := g27
          have hrow := hJ.2.2.1 hun
          have hck9 : CkOk W (Ck.mk r.k r.f a9_27 r.n r.n r.zs) := ⟨HCK.out.k, HCK.out.f, h27_2.reads, HCK.out.byt, Nat.le_refl _, Nat.le_trans HCK.out.le HCK.out.cap⟩
          have hoff9 : OffC 0 W (Ck.mk r.k r.f a9_27 r.n r.n r.zs) := fun _ p hp => .inr (h27_2.far p hp).2.2
          obtain ⟨aX, cX, W9, hrun, H9⟩ := hrow.add1 hJ.2.1 (by have := HJN.out; omega) gs_27 (Ck.mk r.k r.f a9_27 r.n r.n r.zs) h27_1 hck9
          have hb9 : Below base W W9 := ⟨H9.out.2.os, H9.out.2.tape, H9.out.2.output, H9.out.2.size, fun q hq => H9.out.2.block q (Nat.lt_of_lt_of_le hq hJ.2.1) (fun e => by have := (World.ownsRow.lt hrow.own q e.symm).1; omega)⟩
          have hrow9 := RowC.added hrow hck9 hoff9 H9.out.1 H9.out.2
          have hA9 := (H9.out.2.block gB hJ.2.2.2.lt (fun e => by have := HRB.out gB e.symm; omega)).trans hJ.2.2.2
          refine Vals.wpOp_run ho' rfl ?_
          clear hdep hfr ho' hdf
          refine Vals.oper_append_run (.tmp 18) (.tmp 27) 23 rfl _ _ _ W9 (by rw [Vals.eval_tmp]; exact r18) (by rw [Vals.eval_tmp]; exact r27) hrun ?_
          exact hK _ _ (fun jj x hlj hji h => PkCp_app hrow HRB.out H9.out.2 hji h) ⟨hJ.1.trans hb9, Nat.le_trans hJ.2.1 H9.out.2.size, fun h => (Vals.jself (by rw [hls]; decide) h).elim, hA9⟩ (fun _ => ⟨_, _, _, rfl, hrow9⟩)
        | i + 11, ho, hd => omega
      case fin =>
        intro listed W fq hall hJ hG
        have q0 : fq 18 = .slice a2 j c2 := hG 0 18 rfl
        have q1 : fq 19 = .pointer (some ⟨gB, 0, none⟩) := hG 1 19 rfl
        have q2 : fq 20 = .int .u8 r.k := hG 2 20 rfl
        have q3 : fq 21 = .pointer (some ⟨gB, 1, none⟩) := hG 3 21 rfl
        have q4 : fq 22 = .int .u8 r.f := hG 4 22 rfl
        have q5 : fq 23 = .pointer (some ⟨gB, 2, none⟩) := hG 5 23 rfl
        have q6 : fq 24 = .slice r.a r.n r.c := hG 6 24 rfl
        obtain ⟨a9_25, q7, hq25_0⟩ : ∃ a9_25, fq 25 = .slice a9_25 r.n r.n ∧ Row8 base W a9_25 r.n r.n r.zs := hG 7 25 rfl
        obtain ⟨a9_26, q8, hq26_0⟩ : ∃ a9_26, fq 26 = .agg #[.int .u8 r.k, .int .u8 r.f, .slice a9_26 r.n r.n] ∧ Row8 base W a9_26 r.n r.n r.zs := hG 8 26 rfl
        obtain ⟨gs_27, a9_27, q9, hq27_0, hq27_1, hq27_2⟩ : ∃ gs_27 a9_27, fq 27 = .slice (some ⟨gs_27, 0, none⟩) 1 1 ∧ gB < gs_27 ∧ Arr W gs_27 41 [.int .u8 r.k, .int .u8 r.f, .slice a9_27 r.n r.n] ∧ Row8 base W a9_27 r.n r.n r.zs := hG 9 27 rfl
        obtain ⟨aX_28, cX_28, aY_28, q10, hq28_0⟩ : ∃ aX_28 cX_28 aY_28, fq 28 = .slice aX_28 (j + 1) cX_28 ∧ RowC 0 base W aX_28 (j + 1) cX_28 (M ++ [(Ck.mk r.k r.f aY_28 r.n r.n r.zs)]) := hG 10 28 rfl
        clear hG hall
        refine Vals.wpOp_run rfl rfl ?_
        simp only [Vals.puts, Vals.pairs, List.filterMap_cons, List.filterMap_nil, id, List.map_cons, List.map_nil, List.foldl_cons, List.foldl_nil, q0, q1, q2, q3, q4, q5, q6, q7, q8, q9, q10]
        clear q0 q1 q2 q3 q4 q5 q6 q7 q8 q9 q10
        go_frame
        have hin := hq28_0
        have hbj := HB5.out.trans hJ.1
        rw [HBASE.out] at hin hbj
        have hpc : pcs (M ++ [(Ck.mk r.k r.f aY_28 r.n r.n r.zs)]) = (pcs L).take (j + 1) := by
          have e : pcs (M ++ [(Ck.mk r.k r.f aY_28 r.n r.n r.zs)]) = pcs M ++ [r.pc] := by simp [pcs, Ck.pc]
          rw [e, HM.out, List.take_add_one, pcs_at HR.out]
          rfl
        have HF := Lib.hid (And.intro hin (And.intro hpc hbj))
        clear hq28_0 hq27_0 hq27_1 hq27_2 hq26_0 hq25_0 hin hbj hpc hJ
        go_wp2
        exact ⟨⟨j + 1, aX_28, cX_28, M ++ [(Ck.mk r.k r.f aY_28 r.n r.n r.zs)], by omega, rfl, congrArg (Value.int .i64) (by omega), HF.out.1, HF.out.2.1, HF.out.2.2⟩, by simp [intOf]; omega⟩
    have hje : j = n := by omega
    subst hje
    have hjf : decide ((j : Int) < (j : Int)) = false := by simp
    have hz := HZ.out.keep HBW.out
    have fs0 := hz.free 0
    have fs1 := hz.free 1
    have yy0 := hz.cell (i := 0) rfl
    have yy1 := hz.cell (i := 1) rfl
    obtain ⟨w8, hw8⟩ : ∃ x, (wr.setCell ⟨w.heap.size + 1, 0, none⟩ (.int .u32 tag)).setCell ⟨w.heap.size + 1, 1, none⟩ (.slice a2 j c2) = x := ⟨_, rfl⟩
    have hA8 : Arr _ (w.heap.size + 1) 25 [.int .u32 tag, .slice a2 j c2] := (hz.set 0 (.int .u32 tag)).set 1 (.slice a2 j c2)
    have hbr := HB.out.trans (HBW.out.mono HB.out.size)
    have hB8 := (hbr.setCell (p := ⟨w.heap.size + 1, 0, none⟩) (by simp) (.int .u32 tag)).setCell (p := ⟨w.heap.size + 1, 1, none⟩) (by simp) (.slice a2 j c2)
    have hR8 := (HROW.out.setAt hz (by decide) (by decide) (Nat.zero_le _) 0 (.int .u32 tag)).setAt (hz.set 0 (.int .u32 tag)) (by decide) (by decide) (Nat.zero_le _) 1 (.slice a2 j c2)
    rw [hw8] at hA8 hB8 hR8
    rw [HS.out] at hR8
    have zz0 := hA8.cell (i := 0) rfl
    have zz1 := hA8.cell (i := 1) rfl
    have hp : pcs M = pcs L := by rw [HM.out, List.take_of_length_le (by rw [pcs_len, HROWS.out.hlen]; exact Nat.le_refl _)]
    have HE := Lib.hid (And.intro hB8 (And.intro hR8 hp))
    clear hA8 hbr hB8 hR8 hp hz hrw
    go_wp2
    exact bodyPost_ret (by simp [results, Try.results13, go_sem, zz0, zz1] <;> rfl) rfl ⟨a2, c2, M, rfl, HE.out.1, HE.out.2.1, HE.out.2.2⟩
end Go.Proofs.Ytnndlpbbllmpjaa
