/-
  The walk of ChunkRow.
-/
import Derived.Test.YtoahkigmbmdniaaLChCom
import Derived.Test.YtoahkigmbmdniaaCutRun
import Derived.Test.YtoahkigmbmdniaaGoodW
import Derived.Test.YtoahkigmbmdniaaCkRows
namespace Go.Proofs.Ytoahkigmbmdniaa
open Go.RowKit
set_option linter.unusedVariables false

/-- Chunks, one behind the other. -/
def encs (L : List Ck) : List Int := L.flatMap fun r => encC r.k r.f r.zs
theorem encs_cons (r : Ck) (L : List Ck) : encs (r :: L) = encC r.k r.f r.zs ++ encs L := rfl
theorem encs_take {L : List Ck} {j : Nat} {r : Ck} (h : L[j]? = some r) : encs (L.take (j + 1)) = encs (L.take j) ++ encC r.k r.f r.zs := by
  rw [List.take_add_one, h]
  simp [encs]
theorem encs_drop {L : List Ck} {j : Nat} {r : Ck} (h : L[j]? = some r) : encs (L.drop j) = encC r.k r.f r.zs ++ encs (L.drop (j + 1)) := by
  obtain ⟨hj, rfl⟩ := List.getElem?_eq_some_iff.1 h
  rw [List.drop_eq_getElem_cons hj, encs_cons]
theorem encs_byt {w : World} {L : List Ck} (h : ∀ r ∈ L, CkOk w r) : Byt (encs L) := by
  intro z hz
  obtain ⟨r, hr, hz⟩ := List.mem_flatMap.1 hz
  have ok := h r hr
  exact encC_byt ok.k.1 ok.k.2 ok.f.1 ok.f.2 ok.byt z hz
theorem same_any (k f : Int) (a b : Option Addr) (n n' ca cb : Nat) (zs : List Int) (w : World) (ha : Reads w a n zs) (hb : Reads w b n' zs) (hz : Byt zs) (hn : n ≤ 281474976710656) :
    Calls Try.prog 20 #[.agg #[.int .u8 k, .int .u8 f, .slice a n ca], .agg #[.int .u8 k, .int .u8 f, .slice b n' cb]] w fun e w' => e = .returned (.bool true) ∧ Below w.heap.size w w' := by
  obtain rfl : n = n' := ha.1.symm.trans hb.1
  exact same_yes k f a b n ca cb zs w ha hb hz hn

set_option maxRecDepth 100000 in
set_option maxHeartbeats 6400000 in
theorem chunkRow_walk (a : Option Addr) (len cap : Nat) (L : List Ck) (w : World) (w0 : RowsCk w a len cap L) :
    Calls Try.prog 6 #[.slice a len cap] w fun e w' => e = .returned (.bool true) ∧ Below w.heap.size w w' := by
  have hcap := w0.hcap
  have hle := w0.hle
  unfold maxLen at hcap
  have HL := Lib.hid w0
  clear w0
  by_cases hlong : 60 < len
  · have hg : (60 : Int) < len := by omega
    go_enter Try.func6, Try.ntmps6
    go_wp2_with (go_at_call 11; refine (works_any _).mono ?_; rintro e w' ⟨rfl, hb⟩)
    go_ret
    exact ⟨rfl, hb⟩
  have hg : ¬ (60 : Int) < len := by omega
  go_enter Try.func6, Try.ntmps6
  go_wp2
  go_loopw [3, 4] (fun b i wr => ∃ (j : Nat) (a2 : Option Addr) (n2 c2 : Nat), j ≤ len ∧ i = .int .i64 j ∧ b = .slice a2 n2 c2 ∧ n2 ≤ 2055 * j ∧ Row8 w.heap.size wr a2 n2 c2 (encs (L.take j)) ∧ (∀ r ∈ L.take j, r.n ≤ 2048) ∧ Below w.heap.size w wr) (fun _ i _ => len - (intOf i).toNat)
  case atStart => exact ⟨0, none, 0, 0, Nat.zero_le _, rfl, rfl, Nat.zero_le _, by simpa [encs] using Row8.nil _ _, by simp, Below.refl _ _⟩
  case round =>
    obtain ⟨j, a2, n2, c2, hj, rfl, rfl, hn2, hrow, hsm, hb⟩ := hrel
    by_cases hlt : j < len
    · obtain ⟨lb, lo, r, rfl, hr, ok, y0, y1, y2⟩ := (HL.out.below hb).get hlt
      have hji : (j : Int) < len := by omega
      have hj0 : (0 : Int) ≤ j := by omega
      have HI := Lib.hid (And.intro hrow (And.intro hsm (And.intro hb (And.intro ok hr))))
      clear hrow hsm hb ok hr
      by_cases hbig : 2048 < r.n
      · have hgb : (2048 : Int) < (r.n : Int) := by omega
        go_wp2_with (go_at_call 11; refine (works_any _).mono ?_; rintro e w' ⟨rfl, hb⟩)
        go_ret
        exact ⟨rfl, HI.out.2.2.1.trans (hb.mono HI.out.2.2.1.size)⟩
      · have hgb : ¬ (2048 : Int) < (r.n : Int) := by omega
        have hwr := write_yes r.k r.f r.a r.n r.c r.zs wr HI.out.2.2.2.1.reads (by omega)
        have HW := Lib.hid hwr
        clear hwr
        go_wp2_with fail
        refine HW.out.mono ?_
        rintro e w2 ⟨g, rfl, hg2, hk2, hb2⟩
        have hul := up4_le (4 + r.n)
        have hlz := HI.out.2.2.2.1.reads.1
        have hE : (encC r.k r.f r.zs).length = up4 (4 + r.n) := by rw [encC_len, hlz]
        obtain ⟨a3, c3, w3, happ, H3⟩ := (HI.out.1.keep hb2).appends (by have := HI.out.2.2.1.size; have := hb2.size; omega) (some ⟨g, 0, none⟩) (up4 (4 + r.n)) (up4 (4 + r.n)) _ (hk2.readsAll _ hE.symm) (by omega)
        have hb3 : Below w.heap.size w w3 := HI.out.2.2.1.trans ((hb2.mono HI.out.2.2.1.size).trans (H3.out.2.mono (Nat.le_refl _)))
        have hrow3 := H3.out.1
        rw [← encs_take HI.out.2.2.2.2] at hrow3
        have hsm3 : ∀ s ∈ L.take (j + 1), s.n ≤ 2048 := by
          intro s hs
          rw [List.take_add_one, HI.out.2.2.2.2] at hs
          rcases List.mem_append.1 hs with h | h
          · exact HI.out.2.1 s h
          · simp at h; subst h; omega
        have hn3 : n2 + up4 (4 + r.n) ≤ 2055 * (j + 1) := by omega
        have H4 := Lib.hid (And.intro hrow3 (And.intro hsm3 (And.intro hb3 hn3)))
        clear hg2 hk2 hb2 hul hlz hE H3 hb3 hrow3 hsm3 hn3 HW y0 y1 y2
        go_wp2_with (at_builtin; refine wpList_append_run rfl _ _ _ rfl _ _ _ _ rfl rfl happ ?_)
        clear happ
        go_roundw
        case rel => exact ⟨j + 1, a3, _, c3, by omega, by go_num, rfl, H4.out.2.2.2, H4.out.1, H4.out.2.1, H4.out.2.2.1⟩
        case measure => simp [intOf]; omega
    · obtain rfl : len = j := by omega
      have hall : ∀ r ∈ L, r.n ≤ 2048 := by
        intro r hr
        rw [List.take_of_length_le (by rw [HL.out.hlen]; exact Nat.le_refl _)] at hsm
        exact hsm r hr
      rw [List.take_of_length_le (by rw [HL.out.hlen]; exact Nat.le_refl _)] at hrow
      have hr0 := hrow.reads
      have hc0 := hrow.le
      have HA := Lib.hid hall
      have H0 := Lib.hid (And.intro hr0 (And.intro hc0 hb))
      have hn0 : n2 ≤ 200000 := by omega
      clear hrow hsm hb hall hr0 hc0 hlt
      go_wp2
      go_loopw [3, 5] (fun b i wr => ∃ (i' : Nat) (a2 : Option Addr) (n2 c2 : Nat), i' ≤ len ∧ i = .int .i64 i' ∧ b = .slice a2 n2 c2 ∧ n2 ≤ c2 ∧ n2 ≤ 200000 ∧ Reads wr a2 n2 (encs (L.drop i')) ∧ Below w.heap.size w wr) (fun _ i _ => len - (intOf i).toNat)
      case atStart => exact ⟨0, a2, n2, c2, Nat.zero_le _, rfl, rfl, H0.out.2.1, hn0, H0.out.1, H0.out.2.2⟩
      case round =>
        clear H0 hn0 hn2
        obtain ⟨j, a2, n2, c2, hj, rfl, rfl, hnc, hn2, hrd, hb⟩ := hrel
        have hby : Byt (encs (L.drop j)) := encs_byt (w := w) (fun r hr => HL.out.row r (List.mem_of_mem_drop hr))
        have hread := read_any a2 n2 c2 _ wr hrd hby hnc (by omega)
        by_cases hlt : j < len
        · obtain ⟨lb, lo, r, rfl, hr, ok, y0, y1, y2⟩ := (HL.out.below hb).get hlt
          have hlb : lb < wr.heap.size := World.block_lt_of_cell? wr _ y0
          have hji : (j : Int) < len := by omega
          have hj0 : (0 : Int) ≤ j := by omega
          have hrl : r.zs.length ≤ 2048 := by rw [ok.reads.1]; exact HA.out r (List.mem_of_getElem? hr)
          have HRD := Lib.hid hread
          have HI := Lib.hid (And.intro hrd (And.intro hb (And.intro ok hr)))
          have HC0 := Lib.hid (And.intro hlb (And.intro y0 (And.intro y1 y2)))
          clear hread hrd hb ok hr hby hlb y0 y1 y2
          go_wp2_with fail
          refine HRD.out.mono ?_
          rintro e w2 ⟨hok, hb2⟩
          have hdr := encs_drop HI.out.2.2.2
          obtain ⟨g5, rfl, hg5, hk5⟩ := hok.yes (k := r.k) (f := r.f) (body := r.zs) (by rw [hdr]; exact List.prefix_append _ _) (by omega)
          have hn2l : (encs (L.drop j)).length = n2 := HI.out.1.1
          rw [hdr, List.length_append, encC_len] at hn2l
          have hel := encC_len r.k r.f r.zs
          generalize hU : up4 (4 + r.zs.length) = U at *
          have hUl : U ≤ n2 := by omega
          have hdU : decide (n2 < U) = false := by simpa using hUl
          have hcut := fun W => cut_l a2 n2 c2 U hUl W
          have hrc := reads_cut HI.out.1 U n2 hUl (Nat.le_refl _) hnc
          have hdu : ((encs (L.drop j)).drop U).take (n2 - U) = encs (L.drop (j + 1)) := by
            rw [hdr, ← hel, List.drop_left, List.take_of_length_le (by omega)]
          rw [hdu] at hrc
          obtain ⟨gx, hgx⟩ : ∃ gx, gx = w2.heap.size := ⟨_, rfl⟩
          obtain ⟨w3, hw3⟩ : ∃ w3, w3 = w2.alloc (.cells #[.int .u8 r.k, .int .u8 r.f, .slice (some ⟨g5, 0, none⟩) r.zs.length r.zs.length] 24) := ⟨_, rfl⟩
          have hb3 := chunkBelow w2 r.k r.f (.slice (some ⟨g5, 0, none⟩) r.zs.length r.zs.length)
          have hx3 := chunkBox w2 r.k r.f (.slice (some ⟨g5, 0, none⟩) r.zs.length r.zs.length)
          rw [← hw3] at hb3 hx3
          rw [← hgx] at hx3
          have hbr3 := hb2.trans (hb3.mono hb2.size)
          have HX := Lib.hid (And.intro hx3 (hk5.below hb3))
          have HM := Lib.hid (And.intro (HI.out.2.2.1.reads.below hbr3) (And.intro HI.out.2.2.1.byt (show r.zs.length ≤ 281474976710656 by omega)))
          have HC := Lib.hid (And.intro (Nat.lt_of_lt_of_le HC0.out.1 hbr3.size) (And.intro ((hbr3.cell (p := ⟨lb, lo + j * 3, none⟩) HC0.out.1).trans HC0.out.2.1) (And.intro ((hbr3.cell (p := ⟨lb, lo + j * 3 + 1, none⟩) HC0.out.1).trans HC0.out.2.2.1) ((hbr3.cell (p := ⟨lb, lo + j * 3 + 2, none⟩) HC0.out.1).trans HC0.out.2.2.2))))
          have HB3 := Lib.hid (And.intro (HI.out.2.1.trans (hbr3.mono HI.out.2.1.size)) (hrc.below hbr3))
          have HW3 := Lib.hid (And.intro hgx hw3)
          clear hok hb2 hdr hg5 hk5 hn2l hel hrc hdu hgx hw3 hb3 hx3 hbr3 HRD HI HC0
          go_wp2_with fail
          rw [← HW3.out.2, ← HW3.out.1]
          refine wp_region_any (by kernel_rfl) ?_
          refine Vals.wpAny_goodW (fun i v _ => match i with | 0 => v = .int .i64 0 | 1 => v = .bool false | 2 => v = .bool false | 3 => v = .int .i64 (U : Nat) | 4 => v = .slice a2 n2 c2 | 5 => v = .int .i64 (n2 : Nat) | 6 => v = .bool false | 7 => v = .bool false | 8 => v = .bool false | 9 => v = .agg #[.int .u8 r.k, .int .u8 r.f, .slice (some ⟨g5, 0, none⟩) r.zs.length r.zs.length] | 10 => v = .slice (some ⟨lb, lo, none⟩) len cap | 11 => v = .int .i64 (j : Nat) | 12 => v = .pointer (some ⟨lb, lo + j * 3, none⟩) | 13 => v = .agg #[.int .u8 r.k, .int .u8 r.f, .slice r.a r.n r.c] | 14 => v = .bool true | 15 => v = .bool false | 16 => v = .bool false | _ => True) (fun _ W => Below w3.heap.size w3 W) [some 49, some 50, some 51, some 52, some 53, some 54, some 55, some 56, some 57, some 58, some 59, some 60, some 61, some 62, some 63, some 64, some 65] 85 _ _ rfl (by kernel_rfl) (by kernel_rfl) (by decide) ?step ?fin (Below.refl _ _).drew
          case step =>
            intro i o d ho hd listed a W hls hun hcl hJ hdf hdep hfr K hK
            match i, ho, hd with
              | 0, ho, hd =>
                have ho' := ho
                simp only [List.getElem?_toArray, List.getElem?_cons_zero, Option.some.injEq] at ho hd
                subst ho hd
                have r8 : a.eval (.tmp 8) = .int .i64 0 := hfr 8 (by decide)
                rw [Vals.eval_tmp] at r8
                refine Vals.wpOp_run ho' rfl ?_
                clear hdep hfr ho' hdf hcl
                go_simp
                exact hK _ _ (fun _ _ h => h) hJ (fun _ => rfl)
              | 1, ho, hd =>
                have ho' := ho
                simp only [List.getElem?_toArray, List.getElem?_cons_zero, List.getElem?_cons_succ, Option.some.injEq] at ho hd
                subst ho hd
                have r49 : a.eval (.tmp 49) = .int .i64 0 := (hdep ⟨0, .data⟩ (by simp) rfl).2 49 rfl
                rw [Vals.eval_tmp] at r49
                refine Vals.wpOp_run ho' rfl ?_
                clear hdep hfr ho' hdf hcl
                go_simp
                exact hK _ _ (fun _ _ h => h) hJ (fun _ => rfl)
              | 2, ho, hd =>
                have ho' := ho
                simp only [List.getElem?_toArray, List.getElem?_cons_zero, List.getElem?_cons_succ, Option.some.injEq] at ho hd
                subst ho hd
                have r50 : a.eval (.tmp 50) = .bool false := (hdep ⟨1, .data⟩ (by simp) rfl).2 50 rfl
                rw [Vals.eval_tmp] at r50
                refine Vals.wpOp_run ho' rfl ?_
                clear hdep hfr ho' hdf hcl
                go_simp
                exact hK _ _ (fun _ _ h => h) hJ (fun _ => rfl)
              | 3, ho, hd =>
                have ho' := ho
                simp only [List.getElem?_toArray, List.getElem?_cons_zero, List.getElem?_cons_succ, Option.some.injEq] at ho hd
                subst ho hd
                have hgd : a.eval (.tmp 51) = .bool false := (hdep ⟨2, .guard⟩ (by simp) rfl).2 51 rfl
                have r7 : a.eval (.tmp 7) = .int .i64 (U : Nat) := hfr 7 (by decide)
                rw [Vals.eval_tmp] at r7
                refine Vals.wpOp_run ho' (by unfold Region.wanted; simp only []; rw [Vals.yielded_of (d := 51) rfl hgd]; rfl) ?_
                clear hdep hfr ho' hdf hcl hgd
                go_simp
                exact hK _ _ (fun _ _ h => h) hJ (fun _ => rfl)
              | 4, ho, hd =>
                have ho' := ho
                simp only [List.getElem?_toArray, List.getElem?_cons_zero, List.getElem?_cons_succ, Option.some.injEq] at ho hd
                subst ho hd
                have hgd : a.eval (.tmp 51) = .bool false := (hdep ⟨2, .guard⟩ (by simp) rfl).2 51 rfl
                have r3 : a.eval (.tmp 3) = .slice a2 n2 c2 := hfr 3 (by decide)
                rw [Vals.eval_tmp] at r3
                refine Vals.wpOp_run ho' (by unfold Region.wanted; simp only []; rw [Vals.yielded_of (d := 51) rfl hgd]; rfl) ?_
                clear hdep hfr ho' hdf hcl hgd
                go_simp
                exact hK _ _ (fun _ _ h => h) hJ (fun _ => rfl)
              | 5, ho, hd =>
                have ho' := ho
                simp only [List.getElem?_toArray, List.getElem?_cons_zero, List.getElem?_cons_succ, Option.some.injEq] at ho hd
                subst ho hd
                have hgd : a.eval (.tmp 51) = .bool false := (hdep ⟨2, .guard⟩ (by simp) rfl).2 51 rfl
                have r53 : a.eval (.tmp 53) = .slice a2 n2 c2 := (hdep ⟨4, .data⟩ (by simp) rfl).2 53 rfl
                rw [Vals.eval_tmp] at r53
                refine Vals.wpOp_run ho' (by unfold Region.wanted; simp only []; rw [Vals.yielded_of (d := 51) rfl hgd]; rfl) ?_
                clear hdep hfr ho' hdf hcl hgd
                go_simp
                exact hK _ _ (fun _ _ h => h) hJ (fun _ => rfl)
              | 6, ho, hd =>
                have ho' := ho
                simp only [List.getElem?_toArray, List.getElem?_cons_zero, List.getElem?_cons_succ, Option.some.injEq] at ho hd
                subst ho hd
                have hgd : a.eval (.tmp 51) = .bool false := (hdep ⟨2, .guard⟩ (by simp) rfl).2 51 rfl
                have r52 : a.eval (.tmp 52) = .int .i64 (U : Nat) := (hdep ⟨3, .data⟩ (by simp) rfl).2 52 rfl
                rw [Vals.eval_tmp] at r52
                have r54 : a.eval (.tmp 54) = .int .i64 (n2 : Nat) := (hdep ⟨5, .data⟩ (by simp) rfl).2 54 rfl
                rw [Vals.eval_tmp] at r54
                refine Vals.wpOp_run ho' (by unfold Region.wanted; simp only []; rw [Vals.yielded_of (d := 51) rfl hgd]; rfl) ?_
                clear hdep hfr ho' hdf hcl hgd
                go_simp
                exact hK _ _ (fun _ _ h => h) hJ (fun _ => rfl)
              | 7, ho, hd =>
                have ho' := ho
                simp only [List.getElem?_toArray, List.getElem?_cons_zero, List.getElem?_cons_succ, Option.some.injEq] at ho hd
                subst ho hd
                have r51 : a.eval (.tmp 51) = .bool false := (hdep ⟨2, .data⟩ (by simp) rfl).2 51 rfl
                rw [Vals.eval_tmp] at r51
                have r55 : a.eval (.tmp 55) = .bool false := (hdep ⟨6, .data⟩ (by simp) rfl).2 55 rfl
                rw [Vals.eval_tmp] at r55
                refine Vals.wpOp_run ho' rfl ?_
                clear hdep hfr ho' hdf hcl
                go_simp
                exact hK _ _ (fun _ _ h => h) hJ (fun _ => rfl)
              | 8, ho, hd =>
                have ho' := ho
                simp only [List.getElem?_toArray, List.getElem?_cons_zero, List.getElem?_cons_succ, Option.some.injEq] at ho hd
                subst ho hd
                have r56 : a.eval (.tmp 56) = .bool false := (hdep ⟨7, .data⟩ (by simp) rfl).2 56 rfl
                rw [Vals.eval_tmp] at r56
                refine Vals.wpOp_run ho' rfl ?_
                clear hdep hfr ho' hdf hcl
                go_simp
                exact hK _ _ (fun _ _ h => h) hJ (fun _ => rfl)
              | 9, ho, hd =>
                have ho' := ho
                simp only [List.getElem?_toArray, List.getElem?_cons_zero, List.getElem?_cons_succ, Option.some.injEq] at ho hd
                subst ho hd
                have hgd : a.eval (.tmp 57) = .bool false := (hdep ⟨8, .guard⟩ (by simp) rfl).2 57 rfl
                have r6 : a.eval (.tmp 6) = .pointer (some ⟨gx, 0, none⟩) := hfr 6 (by decide)
                rw [Vals.eval_tmp] at r6
                have x0 := (HX.out.1.below hJ HX.out.1.lt).cell (i := 0) rfl
                have x1 := (HX.out.1.below hJ HX.out.1.lt).cell (i := 1) rfl
                have x2 := (HX.out.1.below hJ HX.out.1.lt).cell (i := 2) rfl
                refine Vals.wpOp_run ho' (by unfold Region.wanted; simp only []; rw [Vals.yielded_of (d := 57) rfl hgd]; rfl) ?_
                clear hdep hfr ho' hdf hcl hgd
                go_simp
                exact hK _ _ (fun _ _ h => h) hJ (fun _ => rfl)
              | 10, ho, hd =>
                have ho' := ho
                simp only [List.getElem?_toArray, List.getElem?_cons_zero, List.getElem?_cons_succ, Option.some.injEq] at ho hd
                subst ho hd
                have hgd : a.eval (.tmp 57) = .bool false := (hdep ⟨8, .guard⟩ (by simp) rfl).2 57 rfl
                have r0 : a.eval (.tmp 0) = .slice (some ⟨lb, lo, none⟩) len cap := hfr 0 (by decide)
                rw [Vals.eval_tmp] at r0
                refine Vals.wpOp_run ho' (by unfold Region.wanted; simp only []; rw [Vals.yielded_of (d := 57) rfl hgd]; rfl) ?_
                clear hdep hfr ho' hdf hcl hgd
                go_simp
                exact hK _ _ (fun _ _ h => h) hJ (fun _ => rfl)
              | 11, ho, hd =>
                have ho' := ho
                simp only [List.getElem?_toArray, List.getElem?_cons_zero, List.getElem?_cons_succ, Option.some.injEq] at ho hd
                subst ho hd
                have hgd : a.eval (.tmp 57) = .bool false := (hdep ⟨8, .guard⟩ (by simp) rfl).2 57 rfl
                have r5 : a.eval (.tmp 5) = .int .i64 (j : Nat) := hfr 5 (by decide)
                rw [Vals.eval_tmp] at r5
                refine Vals.wpOp_run ho' (by unfold Region.wanted; simp only []; rw [Vals.yielded_of (d := 57) rfl hgd]; rfl) ?_
                clear hdep hfr ho' hdf hcl hgd
                go_simp
                exact hK _ _ (fun _ _ h => h) hJ (fun _ => rfl)
              | 12, ho, hd =>
                have ho' := ho
                simp only [List.getElem?_toArray, List.getElem?_cons_zero, List.getElem?_cons_succ, Option.some.injEq] at ho hd
                subst ho hd
                have hgd : a.eval (.tmp 57) = .bool false := (hdep ⟨8, .guard⟩ (by simp) rfl).2 57 rfl
                have r59 : a.eval (.tmp 59) = .slice (some ⟨lb, lo, none⟩) len cap := (hdep ⟨10, .data⟩ (by simp) rfl).2 59 rfl
                rw [Vals.eval_tmp] at r59
                have r60 : a.eval (.tmp 60) = .int .i64 (j : Nat) := (hdep ⟨11, .data⟩ (by simp) rfl).2 60 rfl
                rw [Vals.eval_tmp] at r60
                refine Vals.wpOp_run ho' (by unfold Region.wanted; simp only []; rw [Vals.yielded_of (d := 57) rfl hgd]; rfl) ?_
                clear hdep hfr ho' hdf hcl hgd
                go_simp
                exact hK _ _ (fun _ _ h => h) hJ (fun _ => rfl)
              | 13, ho, hd =>
                have ho' := ho
                simp only [List.getElem?_toArray, List.getElem?_cons_zero, List.getElem?_cons_succ, Option.some.injEq] at ho hd
                subst ho hd
                have hgd : a.eval (.tmp 57) = .bool false := (hdep ⟨8, .guard⟩ (by simp) rfl).2 57 rfl
                have r61 : a.eval (.tmp 61) = .pointer (some ⟨lb, lo + j * 3, none⟩) := (hdep ⟨12, .data⟩ (by simp) rfl).2 61 rfl
                rw [Vals.eval_tmp] at r61
                have y0 := (hJ.cell (p := ⟨lb, lo + j * 3, none⟩) HC.out.1).trans HC.out.2.1
                have y1 := (hJ.cell (p := ⟨lb, lo + j * 3 + 1, none⟩) HC.out.1).trans HC.out.2.2.1
                have y2 := (hJ.cell (p := ⟨lb, lo + j * 3 + 2, none⟩) HC.out.1).trans HC.out.2.2.2
                refine Vals.wpOp_run ho' (by unfold Region.wanted; simp only []; rw [Vals.yielded_of (d := 57) rfl hgd]; rfl) ?_
                clear hdep hfr ho' hdf hcl hgd
                go_simp
                exact hK _ _ (fun _ _ h => h) hJ (fun _ => rfl)
              | 14, ho, hd =>
                have ho' := ho
                simp only [List.getElem?_toArray, List.getElem?_cons_zero, List.getElem?_cons_succ, Option.some.injEq] at ho hd
                subst ho hd
                have hgd : a.eval (.tmp 57) = .bool false := (hdep ⟨8, .guard⟩ (by simp) rfl).2 57 rfl
                have r58 : a.eval (.tmp 58) = .agg #[.int .u8 r.k, .int .u8 r.f, .slice (some ⟨g5, 0, none⟩) r.zs.length r.zs.length] := (hdep ⟨9, .data⟩ (by simp) rfl).2 58 rfl
                rw [Vals.eval_tmp] at r58
                have r62 : a.eval (.tmp 62) = .agg #[.int .u8 r.k, .int .u8 r.f, .slice r.a r.n r.c] := (hdep ⟨13, .data⟩ (by simp) rfl).2 62 rfl
                rw [Vals.eval_tmp] at r62
                refine Vals.wpOp_run ho' (by unfold Region.wanted; simp only []; rw [Vals.yielded_of (d := 57) rfl hgd]; rfl) ?_
                clear hdep hfr ho' hdf hcl hgd
                go_simp
                refine (same_any r.k r.f (some ⟨g5, 0, none⟩) r.a r.zs.length r.n r.zs.length r.c r.zs W ((HX.out.2.below hJ).readsAll _ rfl) (HM.out.1.below hJ) HM.out.2.1 HM.out.2.2).mono ?_
                rintro e w' ⟨rfl, hb⟩
                exact hK _ _ (fun _ _ h => h) (hJ.trans (hb.mono hJ.size)) (fun _ => rfl)
              | 15, ho, hd =>
                have ho' := ho
                simp only [List.getElem?_toArray, List.getElem?_cons_zero, List.getElem?_cons_succ, Option.some.injEq] at ho hd
                subst ho hd
                have hgd : a.eval (.tmp 57) = .bool false := (hdep ⟨8, .guard⟩ (by simp) rfl).2 57 rfl
                have r63 : a.eval (.tmp 63) = .bool true := (hdep ⟨14, .data⟩ (by simp) rfl).2 63 rfl
                rw [Vals.eval_tmp] at r63
                refine Vals.wpOp_run ho' (by unfold Region.wanted; simp only []; rw [Vals.yielded_of (d := 57) rfl hgd]; rfl) ?_
                clear hdep hfr ho' hdf hcl hgd
                go_simp
                exact hK _ _ (fun _ _ h => h) hJ (fun _ => rfl)
              | 16, ho, hd =>
                have ho' := ho
                simp only [List.getElem?_toArray, List.getElem?_cons_zero, List.getElem?_cons_succ, Option.some.injEq] at ho hd
                subst ho hd
                have r57 : a.eval (.tmp 57) = .bool false := (hdep ⟨8, .data⟩ (by simp) rfl).2 57 rfl
                rw [Vals.eval_tmp] at r57
                have r64 : a.eval (.tmp 64) = .bool false := (hdep ⟨15, .data⟩ (by simp) rfl).2 64 rfl
                rw [Vals.eval_tmp] at r64
                refine Vals.wpOp_run ho' rfl ?_
                clear hdep hfr ho' hdf hcl
                go_simp
                exact hK _ _ (fun _ _ h => h) hJ (fun _ => rfl)
              | i + 17, ho, hd => simp at ho
          case fin =>
            intro listed W f hall hJ hG
            have hJ2 : Below w3.heap.size w3 W := hJ
            have q0 : f 49 = .int .i64 0 := hG 0 49 rfl
            have q1 : f 50 = .bool false := hG 1 50 rfl
            have q2 : f 51 = .bool false := hG 2 51 rfl
            have q3 : f 52 = .int .i64 (U : Nat) := hG 3 52 rfl
            have q4 : f 53 = .slice a2 n2 c2 := hG 4 53 rfl
            have q5 : f 54 = .int .i64 (n2 : Nat) := hG 5 54 rfl
            have q6 : f 55 = .bool false := hG 6 55 rfl
            have q7 : f 56 = .bool false := hG 7 56 rfl
            have q8 : f 57 = .bool false := hG 8 57 rfl
            have q9 : f 58 = .agg #[.int .u8 r.k, .int .u8 r.f, .slice (some ⟨g5, 0, none⟩) r.zs.length r.zs.length] := hG 9 58 rfl
            have q10 : f 59 = .slice (some ⟨lb, lo, none⟩) len cap := hG 10 59 rfl
            have q11 : f 60 = .int .i64 (j : Nat) := hG 11 60 rfl
            have q12 : f 61 = .pointer (some ⟨lb, lo + j * 3, none⟩) := hG 12 61 rfl
            have q13 : f 62 = .agg #[.int .u8 r.k, .int .u8 r.f, .slice r.a r.n r.c] := hG 13 62 rfl
            have q14 : f 63 = .bool true := hG 14 63 rfl
            have q15 : f 64 = .bool false := hG 15 64 rfl
            have q16 : f 65 = .bool false := hG 16 65 rfl
            have HF := Lib.hid (And.intro (HB3.out.1.trans (hJ2.mono HB3.out.1.size)) (HB3.out.2.below hJ2))
            clear hall hJ hG hJ2 HB3 HC HM HX
            simp only [Vals.puts, Vals.pairs, List.filterMap_cons, List.filterMap_nil, id, List.map_cons, List.map_nil, List.foldl_cons, List.foldl_nil, q0, q1, q2, q3, q4, q5, q6, q7, q8, q9, q10, q11, q12, q13, q14, q15, q16]
            clear q0 q1 q2 q3 q4 q5 q6 q7 q8 q9 q10 q11 q12 q13 q14 q15 q16
            go_frame
            go_wp2
            go_roundw
            case rel => exact ⟨j + 1, cutA a2 U c2, n2 - U, c2 - U, by omega, by go_num, rfl, by omega, by omega, HF.out.2, HF.out.1⟩
            case measure => simp [intOf]; omega
        · obtain rfl : len = j := by omega
          rw [List.drop_eq_nil_of_le (by rw [HL.out.hlen]; exact Nat.le_refl _)] at hrd hread
          have hn0 : n2 = 0 := hrd.1.symm
          subst hn0
          have HRD := Lib.hid hread
          have HB := Lib.hid hb
          clear hread hrd hb hby hlt
          go_wp2_with fail
          refine HRD.out.mono ?_
          rintro e w2 ⟨hok, hb2⟩
          obtain rfl := hok.no (no_short (by simp [encs]))
          unfold noChunk
          have HB2 := Lib.hid (HB.out.trans ((hb2.trans ((chunkBelow w2 0 0 (.slice none 0 0)).mono hb2.size)).mono HB.out.size))
          clear hok hb2 HB HRD
          go_wp2_with (go_at_call 11; refine (works_any _).mono ?_; rintro e w' ⟨rfl, hb⟩)
          go_ret
          exact ⟨rfl, HB2.out.trans (hb.mono HB2.out.size)⟩
end Go.Proofs.Ytoahkigmbmdniaa
