/-
  Stage 10: the reference's Same, where it is true. Written by genpk6.py.
-/
import Derived.Test.YtnndlpbbllmpjaaPkSpec
import Derived.Test.YtnndlpbbllmpjaaMgB
namespace Go.Proofs.Ytnndlpbbllmpjaa
open Go.RowKit
set_option linter.unusedVariables false
set_option linter.unusedSimpArgs false

/-- What the operations of the drawn region leave behind. -/
def PkSm (w wr : World) (tag : Int) (b1 o1 b2 o2 n c c2 j : Nat) (kx fx : Int) (ax ay : Option Addr) (nx cx cy : Nat) (i : Nat) (v : Value) (W : World) : Prop := match i with | 0 => v = .pointer (some ⟨w.heap.size, 1, none⟩) | 1 => v = .slice (some ⟨b1, o1, none⟩) n c | 2 => v = .int .i64 (j : Int) | 3 => v = .pointer (some ⟨b1, o1 + j * 3, none⟩) | 4 => v = .agg #[.int .u8 kx, .int .u8 fx, .slice ax nx cx] | 5 => v = .pointer (some ⟨w.heap.size + 1, 1, none⟩) | 6 => v = .slice (some ⟨b2, o2, none⟩) n c2 | 7 => v = .int .i64 (j : Int) | 8 => v = .pointer (some ⟨b2, o2 + j * 3, none⟩) | 9 => v = .agg #[.int .u8 kx, .int .u8 fx, .slice ay nx cy] | 10 => v = .bool true | 11 => v = .bool false | _ => True
theorem PkSm_mono {w wr : World} {tag : Int} {b1 o1 b2 o2 n c c2 j : Nat} {kx fx : Int} {ax ay : Option Addr} {nx cx cy : Nat} {W W' : World} (hb : Below W.heap.size W W') (jo : Nat) (xo : Value) (h : PkSm w wr tag b1 o1 b2 o2 n c c2 j kx fx ax ay nx cx cy jo xo W) : PkSm w wr tag b1 o1 b2 o2 n c c2 j kx fx ax ay nx cx cy jo xo W' := by
  unfold PkSm at h ⊢
  split at h <;> try exact h
theorem PkSm_any {w wr : World} {tag : Int} {b1 o1 b2 o2 n c c2 j : Nat} {kx fx : Int} {ax ay : Option Addr} {nx cx cy : Nat} {W W' : World} (jo : Nat) (xo : Value) (h : PkSm w wr tag b1 o1 b2 o2 n c c2 j kx fx ax ay nx cx cy jo xo W) : PkSm w wr tag b1 o1 b2 o2 n c c2 j kx fx ax ay nx cx cy jo xo W' := by
  unfold PkSm at h ⊢
  split at h <;> exact h

set_option maxRecDepth 100000 in
set_option maxHeartbeats 3200000 in
theorem psame_yes (tag : Int) (aq : Option Addr) (n c : Nat) (L : List Ck) (bq : Option Addr) (c2 : Nat) (M : List Ck) (w : World) (h : RowsCk w aq n c L) (hM : RowsCk w bq n c2 M) (e : pcs L = pcs M) (hbig : ∀ r ∈ L, r.n ≤ 281474976710656) :
    Calls Try.prog 19 #[.agg #[.int .u32 tag, .slice aq n c], .agg #[.int .u32 tag, .slice bq n c2]] w fun e w' => e = .returned (.bool true) ∧ Below w.heap.size w w' := by
  obtain ⟨w0, hw0⟩ : ∃ w0, w.alloc (.cells #[.int .u32 tag, .slice aq n c] 25) = w0 := ⟨_, rfl⟩
  have hb0 : Below w.heap.size w w0 := by rw [← hw0]; exact (Below.refl _ _).alloc (Nat.le_refl _) _
  have hs0 : w0.heap.size = w.heap.size + 1 := by rw [← hw0]; simp
  have hA : Arr w0 w.heap.size 25 [.int .u32 tag, .slice aq n c] := by rw [← hw0]; exact arr_new _ _ _
  obtain ⟨w1, hw1⟩ : ∃ w1, w0.alloc (.cells #[.int .u32 tag, .slice bq n c2] 25) = w1 := ⟨_, rfl⟩
  have hb1 : Below w0.heap.size w0 w1 := by rw [← hw1]; exact (Below.refl _ _).alloc (Nat.le_refl _) _
  have hC : Arr w1 (w.heap.size + 1) 25 [.int .u32 tag, .slice bq n c2] := by rw [← hw1, ← hs0]; exact arr_new _ _ _
  have hA1 := hA.keep hb1
  have hb01 := hb0.trans (hb1.mono hb0.size)
  have c0 := hA1.cell (i := 0) rfl
  have c1 := hA1.cell (i := 1) rfl
  have d0 := hC.cell (i := 0) rfl
  have d1 := hC.cell (i := 1) rfl
  have HR := Lib.hid (And.intro (h.below hb01) (And.intro (hM.below hb01) (And.intro e hbig)))
  have HB := Lib.hid hb01
  have hnm : n ≤ 9223372036854775807 := by have h1 := h.hle; have h2 := h.hcap; unfold maxLen at h2; omega
  have HAB := Lib.hid (And.intro hA1 hC)
  clear h hM e hbig hb0 hA hb1 hC hA1 hb01
  go_enter Try.func19, Try.ntmps19
  go_wp2_with fail
  clear c0 c1 d0 d1
  go_loopw [5] (fun ii wr => ∃ j : Nat, j ≤ n ∧ ii = .int .i64 (j : Int) ∧ Below w1.heap.size w1 wr) (fun ii _ => n - (intOf ii).toNat)
  case atStart => exact ⟨0, Nat.zero_le _, rfl, Below.refl _ _⟩
  case round =>
    obtain ⟨j, hj, rfl, hbl⟩ := hrel
    have HBL := Lib.hid hbl
    have hA2 := HAB.out.1.keep hbl
    have hC2 := HAB.out.2.keep hbl
    have c0 := hA2.cell (i := 0) rfl
    have c1 := hA2.cell (i := 1) rfl
    have d0 := hC2.cell (i := 0) rfl
    have d1 := hC2.cell (i := 1) rfl
    by_cases hjn : j < n
    · obtain ⟨b1, o1, r, ha, hr, hk, h0, h1, h2⟩ := (HR.out.1.below hbl).get hjn
      obtain ⟨b2, o2, r', ha', hr', hk', h0', h1', h2'⟩ := (HR.out.2.1.below hbl).get hjn
      have hpc : r.pc = r'.pc := by have e1 := pcs_at hr; have e2 := pcs_at hr'; rw [HR.out.2.2.1] at e1; rw [e1] at e2; exact Option.some.inj e2
      obtain ⟨kx, fx, ax, nx, cx, zx⟩ := r
      obtain ⟨ky, fy, ay, ny, cy, zy⟩ := r'
      simp only [Ck.pc, PC.mk.injEq] at hpc
      obtain ⟨rfl, rfl, rfl⟩ := hpc
      obtain rfl : nx = ny := hk.reads.1.symm.trans hk'.reads.1
      have hnb : nx ≤ 281474976710656 := HR.out.2.2.2 _ (List.mem_of_getElem? hr)
      have HRX := Lib.hid (And.intro hk.reads (And.intro hk'.reads hk.byt))
      subst ha ha'
      have hlt1 : b1 < wr.heap.size := World.block_lt_of_cell? wr _ h0
      have hlt2 : b2 < wr.heap.size := World.block_lt_of_cell? wr _ h0'
      have HX1 := Lib.hid (And.intro hlt1 (And.intro h0 (And.intro h1 h2)))
      have HX2 := Lib.hid (And.intro hlt2 (And.intro h0' (And.intro h1' h2')))
      have HA := Lib.hid hA2
      have HC := Lib.hid hC2
      have hj0 : (0 : Int) ≤ (j : Int) := by omega
      have hj1 : (j : Int) < (n : Int) := by omega
      clear hk hk' hr hr' h0 h1 h2 h0' h1' h2' hA2 hC2 hbl hlt1 hlt2
      go_wp2_with fail
      clear c0 c1 d0 d1
      refine wp_region_any (by kernel_rfl) ?_
      refine Vals.wpAny_goodW (PkSm w wr tag b1 o1 b2 o2 n c c2 j kx fx ax ay nx cx cy) (fun _ => (fun W => Below wr.heap.size wr W)) [some 27, some 28, some 29, some 30, some 31, some 32, some 33, some 34, some 35, some 36, some 37, some 38] 39 _ _ rfl (by kernel_rfl) (by kernel_rfl) (by decide) ?step ?fin (Below.refl _ _).drew
      case step =>
        intro i o d ho hd listed a W hls hun hcl hJ hdf hdep hfr K hK
        match i, ho, hd with
        | 0, ho, hd =>
          have ho' := ho
          simp only [List.getElem?_toArray, List.getElem?_cons_zero, Option.some.injEq] at ho hd
          subst ho hd
          have r2 : a.eval (.tmp 2) = .pointer (some ⟨w.heap.size, 0, none⟩) := hfr 2 (by decide)
          rw [Vals.eval_tmp] at r2
          refine Vals.wpOp_run ho' rfl ?_
          clear hdep hfr ho' hdf hcl
          go_simp
          exact hK _ _ (fun _ _ h => h) hJ (fun _ => rfl)
        | 1, ho, hd =>
          have ho' := ho
          simp only [List.getElem?_toArray, List.getElem?_cons_zero, List.getElem?_cons_succ, Option.some.injEq] at ho hd
          subst ho hd
          have r27 : a.eval (.tmp 27) = .pointer (some ⟨w.heap.size, 1, none⟩) := (hdep ⟨0, .data⟩ (by simp) rfl).2 27 rfl
          rw [Vals.eval_tmp] at r27
          have c0 := (HA.out.keep hJ).cell (i := 1) rfl
          refine Vals.wpOp_run ho' rfl ?_
          clear hdep hfr ho' hdf hcl
          go_simp
          exact hK _ _ (fun _ _ h => h) hJ (fun _ => rfl)
        | 2, ho, hd =>
          have ho' := ho
          simp only [List.getElem?_toArray, List.getElem?_cons_zero, List.getElem?_cons_succ, Option.some.injEq] at ho hd
          subst ho hd
          have r5 : a.eval (.tmp 5) = .int .i64 (j : Int) := hfr 5 (by decide)
          rw [Vals.eval_tmp] at r5
          refine Vals.wpOp_run ho' rfl ?_
          clear hdep hfr ho' hdf hcl
          go_simp
          exact hK _ _ (fun _ _ h => h) hJ (fun _ => rfl)
        | 3, ho, hd =>
          have ho' := ho
          simp only [List.getElem?_toArray, List.getElem?_cons_zero, List.getElem?_cons_succ, Option.some.injEq] at ho hd
          subst ho hd
          have r28 : a.eval (.tmp 28) = .slice (some ⟨b1, o1, none⟩) n c := (hdep ⟨1, .data⟩ (by simp) rfl).2 28 rfl
          rw [Vals.eval_tmp] at r28
          have r29 : a.eval (.tmp 29) = .int .i64 (j : Int) := (hdep ⟨2, .data⟩ (by simp) rfl).2 29 rfl
          rw [Vals.eval_tmp] at r29
          refine Vals.wpOp_run ho' rfl ?_
          clear hdep hfr ho' hdf hcl
          go_simp
          exact hK _ _ (fun _ _ h => h) hJ (fun _ => rfl)
        | 4, ho, hd =>
          have ho' := ho
          simp only [List.getElem?_toArray, List.getElem?_cons_zero, List.getElem?_cons_succ, Option.some.injEq] at ho hd
          subst ho hd
          have r30 : a.eval (.tmp 30) = .pointer (some ⟨b1, o1 + j * 3, none⟩) := (hdep ⟨3, .data⟩ (by simp) rfl).2 30 rfl
          rw [Vals.eval_tmp] at r30
          have q0 := (hJ.cell (p := ⟨_, _, none⟩) HX1.out.1).trans HX1.out.2.1
          have q1 := (hJ.cell (p := ⟨_, _, none⟩) HX1.out.1).trans HX1.out.2.2.1
          have q2 := (hJ.cell (p := ⟨_, _, none⟩) HX1.out.1).trans HX1.out.2.2.2
          refine Vals.wpOp_run ho' rfl ?_
          clear hdep hfr ho' hdf hcl
          go_simp
          exact hK _ _ (fun _ _ h => h) hJ (fun _ => rfl)
        | 5, ho, hd =>
          have ho' := ho
          simp only [List.getElem?_toArray, List.getElem?_cons_zero, List.getElem?_cons_succ, Option.some.injEq] at ho hd
          subst ho hd
          have r3 : a.eval (.tmp 3) = .pointer (some ⟨w.heap.size + 1, 0, none⟩) := hfr 3 (by decide)
          rw [Vals.eval_tmp] at r3
          refine Vals.wpOp_run ho' rfl ?_
          clear hdep hfr ho' hdf hcl
          go_simp
          exact hK _ _ (fun _ _ h => h) hJ (fun _ => rfl)
        | 6, ho, hd =>
          have ho' := ho
          simp only [List.getElem?_toArray, List.getElem?_cons_zero, List.getElem?_cons_succ, Option.some.injEq] at ho hd
          subst ho hd
          have r32 : a.eval (.tmp 32) = .pointer (some ⟨w.heap.size + 1, 1, none⟩) := (hdep ⟨5, .data⟩ (by simp) rfl).2 32 rfl
          rw [Vals.eval_tmp] at r32
          have c0 := (HC.out.keep hJ).cell (i := 1) rfl
          refine Vals.wpOp_run ho' rfl ?_
          clear hdep hfr ho' hdf hcl
          go_simp
          exact hK _ _ (fun _ _ h => h) hJ (fun _ => rfl)
        | 7, ho, hd =>
          have ho' := ho
          simp only [List.getElem?_toArray, List.getElem?_cons_zero, List.getElem?_cons_succ, Option.some.injEq] at ho hd
          subst ho hd
          have r5 : a.eval (.tmp 5) = .int .i64 (j : Int) := hfr 5 (by decide)
          rw [Vals.eval_tmp] at r5
          refine Vals.wpOp_run ho' rfl ?_
          clear hdep hfr ho' hdf hcl
          go_simp
          exact hK _ _ (fun _ _ h => h) hJ (fun _ => rfl)
        | 8, ho, hd =>
          have ho' := ho
          simp only [List.getElem?_toArray, List.getElem?_cons_zero, List.getElem?_cons_succ, Option.some.injEq] at ho hd
          subst ho hd
          have r33 : a.eval (.tmp 33) = .slice (some ⟨b2, o2, none⟩) n c2 := (hdep ⟨6, .data⟩ (by simp) rfl).2 33 rfl
          rw [Vals.eval_tmp] at r33
          have r34 : a.eval (.tmp 34) = .int .i64 (j : Int) := (hdep ⟨7, .data⟩ (by simp) rfl).2 34 rfl
          rw [Vals.eval_tmp] at r34
          refine Vals.wpOp_run ho' rfl ?_
          clear hdep hfr ho' hdf hcl
          go_simp
          exact hK _ _ (fun _ _ h => h) hJ (fun _ => rfl)
        | 9, ho, hd =>
          have ho' := ho
          simp only [List.getElem?_toArray, List.getElem?_cons_zero, List.getElem?_cons_succ, Option.some.injEq] at ho hd
          subst ho hd
          have r35 : a.eval (.tmp 35) = .pointer (some ⟨b2, o2 + j * 3, none⟩) := (hdep ⟨8, .data⟩ (by simp) rfl).2 35 rfl
          rw [Vals.eval_tmp] at r35
          have q0 := (hJ.cell (p := ⟨_, _, none⟩) HX2.out.1).trans HX2.out.2.1
          have q1 := (hJ.cell (p := ⟨_, _, none⟩) HX2.out.1).trans HX2.out.2.2.1
          have q2 := (hJ.cell (p := ⟨_, _, none⟩) HX2.out.1).trans HX2.out.2.2.2
          refine Vals.wpOp_run ho' rfl ?_
          clear hdep hfr ho' hdf hcl
          go_simp
          exact hK _ _ (fun _ _ h => h) hJ (fun _ => rfl)
        | 10, ho, hd =>
          have ho' := ho
          simp only [List.getElem?_toArray, List.getElem?_cons_zero, List.getElem?_cons_succ, Option.some.injEq] at ho hd
          subst ho hd
          have r31 : a.eval (.tmp 31) = .agg #[.int .u8 kx, .int .u8 fx, .slice ax nx cx] := (hdep ⟨4, .data⟩ (by simp) rfl).2 31 rfl
          rw [Vals.eval_tmp] at r31
          have r36 : a.eval (.tmp 36) = .agg #[.int .u8 kx, .int .u8 fx, .slice ay nx cy] := (hdep ⟨9, .data⟩ (by simp) rfl).2 36 rfl
          rw [Vals.eval_tmp] at r36
          refine Vals.wpOp_run ho' rfl ?_
          clear hdep hfr ho' hdf hcl
          go_simp
          refine (same_any kx fx ax ay nx nx cx cy zx W (HRX.out.1.below hJ) (HRX.out.2.1.below hJ) HRX.out.2.2 (by omega)).mono ?_
          rintro e w' ⟨rfl, hb3⟩
          exact hK _ _ (PkSm_mono hb3) (hJ.trans (hb3.mono hJ.size)) (fun _ => rfl)
        | 11, ho, hd =>
          have ho' := ho
          simp only [List.getElem?_toArray, List.getElem?_cons_zero, List.getElem?_cons_succ, Option.some.injEq] at ho hd
          subst ho hd
          have r37 : a.eval (.tmp 37) = .bool true := (hdep ⟨10, .data⟩ (by simp) rfl).2 37 rfl
          rw [Vals.eval_tmp] at r37
          refine Vals.wpOp_run ho' rfl ?_
          clear hdep hfr ho' hdf hcl
          go_simp
          exact hK _ _ (fun _ _ h => h) hJ (fun _ => rfl)
        | i + 12, ho, hd => simp at ho
      case fin =>
        intro listed W fq hall hJ hG
        have q0 : fq 27 = .pointer (some ⟨w.heap.size, 1, none⟩) := hG 0 27 rfl
        have q1 : fq 28 = .slice (some ⟨b1, o1, none⟩) n c := hG 1 28 rfl
        have q2 : fq 29 = .int .i64 (j : Int) := hG 2 29 rfl
        have q3 : fq 30 = .pointer (some ⟨b1, o1 + j * 3, none⟩) := hG 3 30 rfl
        have q4 : fq 31 = .agg #[.int .u8 kx, .int .u8 fx, .slice ax nx cx] := hG 4 31 rfl
        have q5 : fq 32 = .pointer (some ⟨w.heap.size + 1, 1, none⟩) := hG 5 32 rfl
        have q6 : fq 33 = .slice (some ⟨b2, o2, none⟩) n c2 := hG 6 33 rfl
        have q7 : fq 34 = .int .i64 (j : Int) := hG 7 34 rfl
        have q8 : fq 35 = .pointer (some ⟨b2, o2 + j * 3, none⟩) := hG 8 35 rfl
        have q9 : fq 36 = .agg #[.int .u8 kx, .int .u8 fx, .slice ay nx cy] := hG 9 36 rfl
        have q10 : fq 37 = .bool true := hG 10 37 rfl
        have q11 : fq 38 = .bool false := hG 11 38 rfl
        clear hG hall
        simp only [Vals.puts, Vals.pairs, List.filterMap_cons, List.filterMap_nil, id, List.map_cons, List.map_nil, List.foldl_cons, List.foldl_nil, q0, q1, q2, q3, q4, q5, q6, q7, q8, q9, q10, q11]
        clear q0 q1 q2 q3 q4 q5 q6 q7 q8 q9 q10 q11
        go_frame
        have HN := Lib.hid (HBL.out.trans (hJ.mono HBL.out.size))
        clear hJ HX1 HX2 HA HC HRX HBL
        go_wp2
        exact ⟨⟨j + 1, by omega, congrArg (Value.int .i64) (by omega), HN.out⟩, by simp [intOf]; omega⟩
    · have hj1 : decide ((j : Int) < (n : Int)) = false := by simp; omega
      have HE := Lib.hid (HB.out.trans (hbl.mono HB.out.size))
      clear hbl hA2 hC2
      go_wp2
      go_ret
      exact ⟨rfl, HE.out⟩

end Go.Proofs.Ytnndlpbbllmpjaa
