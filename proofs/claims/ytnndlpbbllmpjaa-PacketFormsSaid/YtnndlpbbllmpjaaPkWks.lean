/-
  Stage 10: the anchor of its laws, out of the program's contracts.
-/
import Derived.Test.YtnndlpbbllmpjaaLPkBack
namespace Go.Proofs.Ytnndlpbbllmpjaa
open Go.RowKit
set_option linter.unusedVariables false
set_option linter.unusedSimpArgs false

def wksL (g : Nat) : List Ck := [Ck.mk 11 0 none 0 0 [], Ck.mk 0 3 (some ⟨g, 0, none⟩) 2 2 [1, 2]]
theorem wks_pcs (g : Nat) : pcs (wksL g) = [⟨11, 0, []⟩, ⟨0, 3, [1, 2]⟩] := rfl
theorem wks_may : mayB [⟨11, 0, []⟩, ⟨0, 3, [1, 2]⟩] = true := by decide +kernel
theorem wks_len : (writeP 7 [⟨11, 0, []⟩, ⟨0, 3, [1, 2]⟩]).length = 24 := by decide +kernel
theorem wks_size : sizeP [⟨11, 0, []⟩, ⟨0, 3, [1, 2]⟩] = 24 := by decide +kernel
theorem wks_4 : (writeP 7 [⟨11, 0, []⟩, ⟨0, 3, [1, 2]⟩])[4]? = some 0 := by decide +kernel
theorem wks_sum : sumOk ((writeP 7 [⟨11, 0, []⟩, ⟨0, 3, [1, 2]⟩]).set 4 1) = false := by decide +kernel
theorem wks_rows {w : World} {g h : Nat} (hk : Blk w g [1, 2]) (hA : Arr w h 41 [.int .u8 11, .int .u8 0, .slice none 0 0, .int .u8 0, .int .u8 3, .slice (some ⟨g, 0, none⟩) 2 2]) : RowsCk w (some ⟨h, 0, none⟩) 2 2 (wksL g) := by
  refine ⟨rfl, Nat.le_refl _, by decide, .inr ⟨h, 0, rfl, hA.lt, fun i r hr => ?_⟩, fun r hr => ?_⟩
  · match i, hr with
    | 0, hr => simp [wksL] at hr; subst hr; exact ⟨hA.cell (i := 0) rfl, hA.cell (i := 1) rfl, hA.cell (i := 2) rfl⟩
    | 1, hr => simp [wksL] at hr; subst hr; exact ⟨hA.cell (i := 3) rfl, hA.cell (i := 4) rfl, hA.cell (i := 5) rfl⟩
    | i + 2, hr => simp [wksL] at hr
  · simp [wksL] at hr
    rcases hr with rfl | rfl
    · exact ⟨by decide, by decide, ⟨rfl, .inl rfl⟩, Byt.nil, Nat.le_refl _, by decide⟩
    · exact ⟨⟨Int.le_refl 0, by show (0 : Int) < 256; omega⟩, ⟨by show (0 : Int) ≤ 3; omega, by show (3 : Int) < 256; omega⟩, hk.readsAll 2 rfl, (Byt.one (by omega) (by omega)).append (Byt.one (by omega) (by omega)), Nat.le_refl _, by show 2 ≤ maxLen; decide⟩

set_option maxRecDepth 100000 in
set_option maxHeartbeats 1600000 in
theorem pkWorks_of (PW : PkWriteOk) (PR : PkReadOk) (PS : PkSizeOk) : PkWorks := by
  intro w
  obtain ⟨w0, hw0⟩ : ∃ w0, w.alloc (.cells #[.int .u8 1, .int .u8 2] 5) = w0 := ⟨_, rfl⟩
  have hb0 : Below w.heap.size w w0 := by rw [← hw0]; exact (Below.refl _ _).alloc (Nat.le_refl _) _
  have hs0 : w0.heap.size = w.heap.size + 1 := by rw [← hw0]; simp
  have hk0 : Blk w0 w.heap.size [1, 2] := by rw [← hw0]; exact heap_alloc_new _ _
  obtain ⟨w1, hw1⟩ : ∃ w1, w0.alloc (.cells #[.int .u8 11, .int .u8 0, .slice none 0 0, .int .u8 0, .int .u8 3, .slice (some ⟨w.heap.size, 0, none⟩) 2 2] 41) = w1 := ⟨_, rfl⟩
  have hb1 : Below w0.heap.size w0 w1 := by rw [← hw1]; exact (Below.refl _ _).alloc (Nat.le_refl _) _
  have hs1 : w1.heap.size = w.heap.size + 2 := by rw [← hw1]; simp; omega
  have hA1 : Arr w1 (w.heap.size + 1) 41 [.int .u8 11, .int .u8 0, .slice none 0 0, .int .u8 0, .int .u8 3, .slice (some ⟨w.heap.size, 0, none⟩) 2 2] := by rw [← hw1, ← hs0]; exact arr_new _ _ _
  have hr1 := wks_rows (hk0.below hb1) hA1
  have hb2 : Below w1.heap.size w1 (w1.alloc (.cells #[.int .u32 7, .slice (some ⟨w.heap.size + 1, 0, none⟩) 2 2] 25)) := (Below.refl _ _).alloc (Nat.le_refl _) _
  have hA2 : Arr (w1.alloc (.cells #[.int .u32 7, .slice (some ⟨w.heap.size + 1, 0, none⟩) 2 2] 25)) (w.heap.size + 2) 25 [.int .u32 7, .slice (some ⟨w.heap.size + 1, 0, none⟩) 2 2] := by rw [← hs1]; exact arr_new _ _ _
  have hb01 := hb0.trans (hb1.mono hb0.size)
  have HB2 := Lib.hid (hb01.trans (hb2.mono hb01.size))
  have HX2 := Lib.hid hA2
  have HR2 := Lib.hid (hr1.below hb2)
  clear hb0 hk0 hb1 hA1 hr1 hb2 hA2 hb01
  go_enter Try.func12, Try.ntmps12
  go_upto_region 2 with fail
  generalize (w1.alloc (.cells #[.int .u32 7, .slice (some ⟨w.heap.size + 1, 0, none⟩) 2 2] 25)) = w2 at *
  have c0 := HX2.out.cell (i := 0) rfl
  have c1 := HX2.out.cell (i := 1) rfl
  have hw := PW 7 (some ⟨w.heap.size + 1, 0, none⟩) 2 2 (wksL w.heap.size) w2 HR2.out (by omega) (by decide) (by decide) (by rw [wks_pcs]; decide +kernel)
  rw [wks_pcs, wks_len] at hw
  have HW := Lib.hid hw
  have HB2s := Lib.hid HB2.out.size
  have HPS := Lib.hid (show ∀ W, RowsCk W (some ⟨w.heap.size + 1, 0, none⟩) 2 2 (wksL w.heap.size) → Calls Try.prog 15 #[.agg #[.int .u32 7, .slice (some ⟨w.heap.size + 1, 0, none⟩) 2 2]] W fun e w' => e = .returned (.int .i64 24) ∧ Below W.heap.size W w' from fun W h => (PS 7 _ 2 2 (wksL w.heap.size) W h (by omega) (by rw [wks_pcs]; decide +kernel)).mono fun e w' ⟨h1, h2⟩ => ⟨by rw [h1, wks_pcs, wks_size]; rfl, h2⟩)
  have HZB := Lib.hid (show Byt (writeP 7 [⟨11, 0, []⟩, ⟨0, 3, [1, 2]⟩]) from writeP_byt (wks_pcs w.heap.size ▸ pcs_ok HR2.out))
  have HPR := Lib.hid (show ∀ (W : World) a c, Reads W a 24 (writeP 7 [⟨11, 0, []⟩, ⟨0, 3, [1, 2]⟩]) → 24 ≤ c → Calls Try.prog 22 #[.slice a 24 c] W fun e w' => (∃ M a c, pcs M = [⟨11, 0, []⟩, ⟨0, 3, [1, 2]⟩] ∧ e = .returned (.tuple #[.agg #[.int .u32 7, .slice a 2 c], .int .i64 0]) ∧ RowsCk w' a 2 c M) ∧ Below W.heap.size W w' from
    fun W a c h hc => (PR a 24 c _ W h HZB.out hc (by omega)).mono fun e w' ⟨h1, h2⟩ => ⟨h1.again (by decide) (by decide) wks_may, h2⟩)
  have HPN := Lib.hid (show ∀ (W : World) a c, Reads W a 24 ((writeP 7 [⟨11, 0, []⟩, ⟨0, 3, [1, 2]⟩]).set 4 1) → 24 ≤ c → Calls Try.prog 22 #[.slice a 24 c] W fun e w' => e = .returned (.tuple #[.agg #[.int .u32 0, .slice none 0 0], .int .i64 8]) ∧ Below W.heap.size W w' from
    by
      intro W a c h hc
      refine (PR a 24 c _ W h (HZB.out.set 4 (by omega) (by omega)) hc (by omega)).mono ?_
      rintro e w' ⟨h1, h2⟩
      refine ⟨?_, h2⟩
      rcases h1 with ⟨h1, _⟩ | ⟨_, _, h1⟩ | ⟨_, h1, _⟩ | ⟨_, h1, _⟩
      · rw [h.1] at h1; omega
      · exact h1
      · rw [wks_sum] at h1; cases h1
      · rw [wks_sum] at h1; cases h1)
  have HZL := Lib.hid (And.intro wks_len wks_4)
  generalize writeP 7 [⟨11, 0, []⟩, ⟨0, 3, [1, 2]⟩] = zs at *
  clear hw
  go_wp2_with fail
  refine HW.out.mono ?_
  rintro e w3 ⟨aw, cw, rfl, hb3, hr3⟩
  rcases hr3.2 with ⟨_, h0, _⟩ | ⟨g, sp, rfl, hg, hk, hsp, hcw, hmx⟩
  · omega
  have HB3 := Lib.hid (HB2.out.trans (hb3.mono HB2.out.size))
  have HX3 := Lib.hid (HX2.out.keep hb3)
  have HR3 := Lib.hid (HR2.out.below hb3)
  have HK3 := Lib.hid hk
  have HG := Lib.hid (And.intro hg (And.intro hsp (And.intro hcw hmx)))
  have hcw2 : 24 ≤ cw := by have := HZL.out.1; omega
  have HL3 := Lib.hid (HPR.out w3 (some ⟨g, 0, none⟩) cw hr3.reads hcw2)
  clear c0 c1 hb3 hr3 hg hk hsp hcw hmx HW HB2 HX2 HR2 HPR
  go_wp2_with fail
  refine HL3.out.mono ?_
  rintro e w4 ⟨⟨M, a2, c2, hpc, rfl, hrow⟩, hb4⟩
  have hb5 : Below w4.heap.size w4 (w4.alloc (.cells #[.int .u32 7, .slice a2 2 c2] 25)) := (Below.refl _ _).alloc (Nat.le_refl _) _
  have hA5 : Arr (w4.alloc (.cells #[.int .u32 7, .slice a2 2 c2] 25)) w4.heap.size 25 [.int .u32 7, .slice a2 2 c2] := arr_new _ _ _
  have hb35 := hb4.trans (hb5.mono hb4.size)
  have HB5 := Lib.hid (HB3.out.trans (hb35.mono HB3.out.size))
  have HX5 := Lib.hid (And.intro (HX3.out.keep hb35) hA5)
  have HR5 := Lib.hid (And.intro (HR3.out.below hb35) (hrow.below hb5))
  have HK5 := Lib.hid (HK3.out.below hb35)
  have HPC := Lib.hid hpc
  clear hpc hrow hb4 hb5 hA5 hb35 HL3 HB3 HX3 HR3 HK3
  go_upto_region 4 with fail
  generalize (w4.alloc (.cells #[.int .u32 7, .slice a2 2 c2] 25)) = w5 at *
  generalize w4.heap.size = gi at *
  have c0 := HX5.out.1.cell (i := 0) rfl
  have c1 := HX5.out.1.cell (i := 1) rfl
  have d0 := HX5.out.2.cell (i := 0) rfl
  have d1 := HX5.out.2.cell (i := 1) rfl
  have HSA := Lib.hid (psame_yes 7 (some ⟨w.heap.size + 1, 0, none⟩) 2 2 (wksL w.heap.size) a2 c2 M w5 HR5.out.1 HR5.out.2 (by rw [wks_pcs, HPC.out]) (fun r hr => by simp [wksL] at hr; rcases hr with rfl | rfl <;> simp))
  go_wp2_with fail
  refine HSA.out.mono ?_
  rintro e w6 ⟨rfl, hb6⟩
  have HB6 := Lib.hid (HB5.out.trans (hb6.mono HB5.out.size))
  have hX6 := HX5.out.1.keep hb6
  have HL6 := Lib.hid (HPS.out w6 (HR5.out.1.below hb6))
  have HK6 := Lib.hid (HK5.out.below hb6)
  clear c0 c1 d0 d1 hb6 HSA HB5 HX5 HR5 HK5 HPS
  have c0 := hX6.cell (i := 0) rfl
  have c1 := hX6.cell (i := 1) rfl
  go_wp2_with fail
  refine HL6.out.mono ?_
  rintro e w7 ⟨rfl, hb7⟩
  have HB7 := Lib.hid (HB6.out.trans (hb7.mono HB6.out.size))
  have hk7 := HK6.out.below hb7
  have e4 : w7.cell? ⟨g, 4, none⟩ = some (.int .u8 0) := by
    have h := hk7.cell (i := 4) (by rw [List.length_append]; have := HZL.out.1; omega)
    rw [List.getElem?_append_left (by have := HZL.out.1; omega), HZL.out.2] at h
    exact h
  have f4 := hk7.free 4
  have hk8 := hk7.set 4 1
  rw [List.set_append_left _ _ (by have := HZL.out.1; omega)] at hk8
  have hr8 : Row8 0 (w7.setCell ⟨g, 4, none⟩ (.int .u8 1)) (some ⟨g, 0, none⟩) 24 cw (zs.set 4 1) := ⟨by rw [List.length_set]; exact HZL.out.1, .inr ⟨g, sp, rfl, Nat.zero_le _, hk8, HG.out.2.1, by rw [List.length_set]; exact HG.out.2.2.1, HG.out.2.2.2⟩⟩
  have HL8 := Lib.hid (HPN.out _ (some ⟨g, 0, none⟩) cw hr8.reads hcw2)
  have hB8 := HB7.out.setCell (p := ⟨g, 4, none⟩) (by have h1 := HG.out.1; have h2 := HB2s.out; show w.heap.size ≤ g; omega) (.int .u8 1)
  have HB8 := Lib.hid hB8
  clear c0 c1 hX6 hb7 hk7 hk8 hr8 hB8 HL6 HB6 HK6
  go_wp2_with fail
  refine HL8.out.mono ?_
  rintro e w9 ⟨rfl, hb9⟩
  have HB9 := Lib.hid (HB8.out.trans (hb9.mono HB8.out.size))
  clear hb9 HL8 HB8
  go_wp2
  go_ret
  exact ⟨rfl, HB9.out⟩
end Go.Proofs.Ytnndlpbbllmpjaa
