/-
  The anchor of stage 11's laws.
-/
import Derived.Test.YtcmaclaiholpfaaDoorKApi
import Derived.Test.YtcmaclaiholpfaaDoorKBack
import Derived.Test.YtcmaclaiholpfaaDoorMgA
namespace Go.Proofs.YtcmaclaiholpfaaDoor
open Go.RowKit
set_option linter.unusedVariables false

def CK : KV := ⟨5, 1, 2, 3, 4, 6, 7, 8⟩
theorem CK_ok : CK.ok := by constructor <;> decide
theorem CK_may : mayK CK = true := by decide
theorem CK_at7 (z : List Int) : (writeK z CK)[7]? = some 5 := by
  unfold writeK
  rw [List.getElem?_append_left (by rw [bodyK_len]; omega)]
  decide +kernel
theorem CK_at31 (z : List Int) : (writeK z CK)[31]? = some 8 := by
  unfold writeK
  rw [List.getElem?_append_left (by rw [bodyK_len]; omega)]
  decide +kernel
theorem byt107 : Byt [107] := Byt.one (by omega) (by omega)

set_option maxRecDepth 100000 in
set_option maxHeartbeats 3200000 in
theorem kworks_of (KW : KWriteOk) (KR : KReadOk) (KF : KFreshOk) : KWorks := by
  intro w ht
  have hcv := fun W g n c => run_convert_mark (P := Tryd.prog) W 22 5 g n c Tryd.underlying22 Tryd.underlying5
  obtain ⟨w0, hw0⟩ : ∃ w', w.alloc (.cells #[.int .i64 5, .int .u32 1, .int .u32 2, .int .u32 3, .int .u32 4, .int .u32 6, .int .u16 7, .int .u16 8] 26) = w' := ⟨_, rfl⟩
  have hb0 : Below w.heap.size w w0 := by rw [← hw0]; exact (Below.refl _ _).alloc (Nat.le_refl _) _
  have hA0 : Arr w0 w.heap.size 26 CK.cells := by rw [← hw0]; exact arr_new _ _ _
  obtain ⟨wa, hwa⟩ : ∃ w', markW (w0.alloc (.cells #[.int .u8 107] 5)) w0.heap.size = w' := ⟨_, rfl⟩
  have hba : Below w0.heap.size w0 wa := by rw [← hwa]; exact below_mark ((Below.refl _ _).alloc (Nat.le_refl _) _) (Nat.le_refl _)
  have hra : Reads wa (some ⟨w0.heap.size, 0, none⟩) 1 [107] := by rw [← hwa]; exact (Blk.readsAll (by unfold Blk; exact heap_alloc_new _ _) 1 rfl).mark _
  have hbw := hb0.trans (hba.mono hb0.size)
  have hk := KW (some ⟨w0.heap.size, 0, none⟩) 1 1 [107] CK wa hra byt107 (by omega) (by omega) CK_ok (ht.below hbw ht.lt)
  have hk' : Calls Tryd.prog 12 #[.slice (some ⟨w0.heap.size, 0, none⟩) 1 1, .agg #[.int .i64 5, .int .u32 1, .int .u32 2, .int .u32 3, .int .u32 4, .int .u32 6, .int .u16 7, .int .u16 8]] wa fun e w' => ∃ a' c', e = .returned (.slice a' 64 c') ∧ Reads w' a' 64 (writeK [107] CK) ∧ 64 ≤ c' ∧ c' ≤ maxLen ∧ Below wa.heap.size wa w' := hk
  have HK := Lib.hid hk'
  have HT := Lib.hid ht
  have H0 := Lib.hid (And.intro hbw (hA0.keep hba))
  clear hk hk' ht hbw hA0 hb0 hba hra
  have q0 := H0.out.2.cell (i := 0) rfl
  have q1 := H0.out.2.cell (i := 1) rfl
  have q2 := H0.out.2.cell (i := 2) rfl
  have q3 := H0.out.2.cell (i := 3) rfl
  have q4 := H0.out.2.cell (i := 4) rfl
  have q5 := H0.out.2.cell (i := 5) rfl
  have q6 := H0.out.2.cell (i := 6) rfl
  have q7 := H0.out.2.cell (i := 7) rfl
  unfold CK at q0 q1 q2 q3 q4 q5 q6 q7
  go_enter Tryd.func9, Tryd.ntmps9
  go_wp2_with fail
  refine HK.out.mono ?_
  rintro e w1 ⟨a2, c2, rfl, hr2, hc2, hm2, hb2⟩
  clear q0 q1 q2 q3 q4 q5 q6 q7
  obtain ⟨wb, hwb⟩ : ∃ w', markW (w1.alloc (.cells #[.int .u8 107] 5)) w1.heap.size = w' := ⟨_, rfl⟩
  have hbb : Below w1.heap.size w1 wb := by rw [← hwb]; exact below_mark ((Below.refl _ _).alloc (Nat.le_refl _) _) (Nat.le_refl _)
  have hrb : Reads wb (some ⟨w1.heap.size, 0, none⟩) 1 [107] := by rw [← hwb]; exact (Blk.readsAll (by unfold Blk; exact heap_alloc_new _ _) 1 rfl).mark _
  have hbx := hb2.trans (hbb.mono hb2.size)
  have hb3 := H0.out.1.trans (hbx.mono H0.out.1.size)
  have hA3 := H0.out.2.keep hbx
  have htw := twinK_any a2 64 c2 (writeK [107] CK) wb (hr2.below hbb) (by omega)
  have HTW := Lib.hid htw
  have H1 := Lib.hid (And.intro hb3 (And.intro hA3 (And.intro (hr2.below hbb) hrb)))
  clear htw hbx hb3 hA3 hbb hrb hr2 hb2 hwa hw0 HK
  go_wp2_with fail
  refine HTW.out.mono ?_
  rintro e w2 ⟨a3, c3, rfl, hr3, hb3⟩
  have hb4 := H1.out.1.trans (hb3.mono H1.out.1.size)
  have hk := KR (some ⟨w1.heap.size, 0, none⟩) 1 1 [107] a3 64 c3 (writeK [107] CK) w2 (H1.out.2.2.2.below hb3) byt107 (by omega) (by omega) hr3.reads (writeK_byt _ _) (by omega) hr3.le hr3.max (HT.out.below hb4 HT.out.lt)
  rw [readK_write CK_ok, if_pos CK_may] at hk
  have hk' : Calls Tryd.prog 14 #[.slice (some ⟨w1.heap.size, 0, none⟩) 1 1, .slice a3 64 c3] w2 fun e w' => e = .returned (.tuple #[.agg #[.int .i64 5, .int .u32 1, .int .u32 2, .int .u32 3, .int .u32 4, .int .u32 6, .int .u16 7, .int .u16 8], .int .i64 0]) ∧ Below w2.heap.size w2 w' := hk
  have HK := Lib.hid hk'
  have H2 := Lib.hid (And.intro hb4 (And.intro (H1.out.2.1.keep hb3) (H1.out.2.2.1.below hb3)))
  clear hk hk' hb3 hb4 hr3 HTW H1 hwb
  go_wp2_with fail
  refine HK.out.mono ?_
  rintro e w3 ⟨rfl, hb3⟩
  obtain ⟨wd, hwd⟩ : ∃ w', w3.alloc (.cells #[.int .i64 5, .int .u32 1, .int .u32 2, .int .u32 3, .int .u32 4, .int .u32 6, .int .u16 7, .int .u16 8] 26) = w' := ⟨_, rfl⟩
  have hbd : Below w3.heap.size w3 wd := by rw [← hwd]; exact (Below.refl _ _).alloc (Nat.le_refl _) _
  have hAd : Arr wd w3.heap.size 26 CK.cells := by rw [← hwd]; exact arr_new _ _ _
  obtain ⟨wc, hwc⟩ : ∃ w', markW (wd.alloc (.cells #[.int .u8 107] 5)) wd.heap.size = w' := ⟨_, rfl⟩
  have hbc : Below wd.heap.size wd wc := by rw [← hwc]; exact below_mark ((Below.refl _ _).alloc (Nat.le_refl _) _) (Nat.le_refl _)
  have hrc : Reads wc (some ⟨wd.heap.size, 0, none⟩) 1 [107] := by rw [← hwc]; exact (Blk.readsAll (by unfold Blk; exact heap_alloc_new _ _) 1 rfl).mark _
  have hbx := hb3.trans ((hbd.trans (hbc.mono hbd.size)).mono hb3.size)
  have hb4 := H2.out.1.trans (hbx.mono H2.out.1.size)
  have hk := KR (some ⟨wd.heap.size, 0, none⟩) 1 1 [107] none 0 0 [] wc hrc byt107 (by omega) (by omega) (Reads.zero _ _) Byt.nil (by omega) (by omega) (by unfold maxLen; omega) (HT.out.below hb4 HT.out.lt)
  rw [readK_len (by simp)] at hk
  have hk' : Calls Tryd.prog 14 #[.slice (some ⟨wd.heap.size, 0, none⟩) 1 1, .slice none 0 0] wc fun e w' => e = .returned (.tuple #[.agg #[.int .i64 0, .int .u32 0, .int .u32 0, .int .u32 0, .int .u32 0, .int .u32 0, .int .u16 0, .int .u16 0], .int .i64 7]) ∧ Below wc.heap.size wc w' := hk
  have H3 := Lib.hid (And.intro hb4 (And.intro (H2.out.2.1.keep hbx) (And.intro (H2.out.2.2.below hbx) (hAd.keep hbc))))
  have HK := Lib.hid hk'
  clear hk hk' hb3 hb4 hbx hbd hAd hbc hrc H2
  go_wp2_with fail
  refine HK.out.mono ?_
  rintro e w4 ⟨rfl, hb3⟩
  clear hcv
  obtain ⟨we, hwe⟩ : ∃ w', w' = w4.alloc (.cells #[.int .i64 0, .int .u32 0, .int .u32 0, .int .u32 0, .int .u32 0, .int .u32 0, .int .u16 0, .int .u16 0] 26) := ⟨_, rfl⟩
  have hbe : Below w4.heap.size w4 we := by rw [hwe]; exact (Below.refl _ _).alloc (Nat.le_refl _) _
  have hbx := hb3.trans (hbe.mono hb3.size)
  have hb4 := H3.out.1.trans (hbx.mono H3.out.1.size)
  have hA4 := H3.out.2.1.keep hbx
  have hD4 := H3.out.2.2.2.keep hbx
  have hr4 := H3.out.2.2.1.below hbx
  obtain ⟨gb, off, rfl⟩ := hr4.some_of (by omega)
  have hcell : ∀ i, i < 64 → we.cell? ⟨gb, off + i, none⟩ = some (.int .u8 ((writeK [107] CK)[i]?.getD 0)) := by
    intro i hi
    rcases hr4.2 with h | ⟨ba, oa, e, _, h⟩
    · omega
    · cases e
      exact h i hi
  have u7 := hcell 7 (by omega)
  have u31 := hcell 31 (by omega)
  rw [CK_at7] at u7
  rw [CK_at31] at u31
  have f0 := hA4.cell (i := 0) rfl
  have g0 := hD4.cell (i := 0) rfl
  have f1 := hA4.cell (i := 1) rfl
  have g1 := hD4.cell (i := 1) rfl
  have f2 := hA4.cell (i := 2) rfl
  have g2 := hD4.cell (i := 2) rfl
  have f3 := hA4.cell (i := 3) rfl
  have g3 := hD4.cell (i := 3) rfl
  have f4 := hA4.cell (i := 4) rfl
  have g4 := hD4.cell (i := 4) rfl
  have f5 := hA4.cell (i := 5) rfl
  have g5 := hD4.cell (i := 5) rfl
  have f6 := hA4.cell (i := 6) rfl
  have g6 := hD4.cell (i := 6) rfl
  have f7 := hA4.cell (i := 7) rfl
  have g7 := hD4.cell (i := 7) rfl
  unfold CK at f0 g0 f1 g1 f2 g2 f3 g3 f4 g4 f5 g5 f6 g6 f7 g7
  have hf : Calls Tryd.prog 16 #[.agg #[.int .i64 5, .int .u32 1, .int .u32 2, .int .u32 3, .int .u32 4, .int .u32 6, .int .u16 7, .int .u16 8], .int .i64 5, .int .i64 0] we fun e w' => e = .returned (.bool true) ∧ Below we.heap.size we w' := KF CK 5 0 we CK_ok (by omega) (by omega)
  have H4 := Lib.hid (And.intro hb4 hA4)
  have HE := Lib.hid hwe
  rw [hwe] at u7 u31 f0 g0 f1 g1 f2 g2 f3 g3 f4 g4 f5 g5 f6 g6 f7 g7 hf
  have HF := Lib.hid hf
  clear hwe hb3 hbe hbx hb4 hA4 hD4 hr4 hcell hf HK hwc hwd
  go_wp2_with fail
  refine HF.out.mono ?_
  rintro e w5 ⟨rfl, hb5⟩
  rw [← HE.out] at hb5
  have hA5 := H4.out.2.keep hb5
  have k0 := hA5.cell (i := 0) rfl
  have k1 := hA5.cell (i := 1) rfl
  have k2 := hA5.cell (i := 2) rfl
  have k3 := hA5.cell (i := 3) rfl
  have k4 := hA5.cell (i := 4) rfl
  have k5 := hA5.cell (i := 5) rfl
  have k6 := hA5.cell (i := 6) rfl
  have k7 := hA5.cell (i := 7) rfl
  unfold CK at k0 k1 k2 k3 k4 k5 k6 k7
  have hf : Calls Tryd.prog 16 #[.agg #[.int .i64 5, .int .u32 1, .int .u32 2, .int .u32 3, .int .u32 4, .int .u32 6, .int .u16 7, .int .u16 8], .int .i64 6, .int .i64 0] w5 fun e w' => e = .returned (.bool false) ∧ Below w5.heap.size w5 w' := KF CK 6 0 w5 CK_ok (by omega) (by omega)
  have H5 := Lib.hid (H4.out.1.trans (hb5.mono H4.out.1.size))
  have HF2 := Lib.hid hf
  clear hb5 hA5 hf HF f0 g0 f1 g1 f2 g2 f3 g3 f4 g4 f5 g5 f6 g6 f7 g7
  go_wp2_with fail
  refine HF2.out.mono ?_
  rintro e w6 ⟨rfl, hb6⟩
  have H6 := Lib.hid (H5.out.trans (hb6.mono H5.out.size))
  clear hb6
  go_wp2
  go_ret
  exact ⟨rfl, H6.out⟩
end Go.Proofs.YtcmaclaiholpfaaDoor
