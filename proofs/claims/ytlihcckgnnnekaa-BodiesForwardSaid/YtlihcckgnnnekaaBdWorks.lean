/-
  Stage 9: the anchor of the laws, and 'large'.
-/
import Derived.Test.YtlihcckgnnnekaaBdApi
import Derived.Test.YtlihcckgnnnekaaRef00c
import Derived.Test.YtlihcckgnnnekaaApart
import Derived.Test.YtlihcckgnnnekaaFrame
namespace Go.Proofs.Ytlihcckgnnnekaa
open Go.RowKit
set_option linter.unusedVariables false
set_option linter.unusedSimpArgs false

def bodyW : List Int := sackB 5 6 [(2, 3)] [7]
theorem bodyW_len : bodyW.length = 20 := by decide
theorem bodyW_ok : okSack 3 0 bodyW = true ∧ natAt bodyW 0 4 = 5 ∧ natAt bodyW 4 4 = 6 ∧ sackG bodyW = [(2, 3)] ∧ sackD bodyW = [7] := by decide +kernel
theorem bodyW_data : okData 3 0 bodyW = false := by
  unfold okData
  rw [eqC_kind (by decide), Bool.and_false]

set_option maxRecDepth 100000 in
set_option maxHeartbeats 1600000 in
theorem works_any (w : World) : Calls Try.prog 13 #[] w fun e w' => e = .returned (.bool true) ∧ Below w.heap.size w w' := by
  obtain ⟨wa, hwa⟩ : ∃ wa, w.alloc (.cells #[.int .u16 2, .int .u16 3] 79) = wa := ⟨_, rfl⟩
  have hba : Below w.heap.size w wa := by rw [← hwa]; exact (Below.refl _ _).alloc (Nat.le_refl _) _
  have hsa : wa.heap.size = w.heap.size + 1 := by rw [← hwa]; simp
  have hAa : Arr wa w.heap.size 79 [.int .u16 2, .int .u16 3] := by rw [← hwa]; exact arr_new _ _ _
  obtain ⟨wb, hwb⟩ : ∃ wb, wa.alloc (.cells #[.int .u32 7] 22) = wb := ⟨_, rfl⟩
  have hbb : Below wa.heap.size wa wb := by rw [← hwb]; exact (Below.refl _ _).alloc (Nat.le_refl _) _
  have hsb : wb.heap.size = w.heap.size + 2 := by rw [← hwb]; simp; omega
  have hAb : Arr wb (w.heap.size + 1) 22 [.int .u32 7] := by rw [← hwb, ← hsa]; exact arr_new _ _ _
  obtain ⟨wc, hwc⟩ : ∃ wc, wb.alloc (.cells #[.int .u32 5, .int .u32 6, .slice (some ⟨w.heap.size, 0, none⟩) 1 1, .slice (some ⟨w.heap.size + 1, 0, none⟩) 1 1] 52) = wc := ⟨_, rfl⟩
  have hbc : Below wb.heap.size wb wc := by rw [← hwc]; exact (Below.refl _ _).alloc (Nat.le_refl _) _
  have hsc : wc.heap.size = w.heap.size + 3 := by rw [← hwc]; simp; omega
  have hAc : Arr wc (w.heap.size + 2) 52 [.int .u32 5, .int .u32 6, .slice (some ⟨w.heap.size, 0, none⟩) 1 1, .slice (some ⟨w.heap.size + 1, 0, none⟩) 1 1] := by rw [← hwc, ← hsb]; exact arr_new _ _ _
  have hg := (hAa.keep hbb).keep hbc
  have hd := hAb.keep hbc
  have hP : Prs wc (some ⟨w.heap.size, 0, none⟩) 1 [(2, 3)] := by
    refine ⟨rfl, by simp [InP], fun i p hp => ?_⟩
    obtain rfl : 0 = i := by cases i with | zero => rfl | succ i => simp at hp
    simp at hp
    subst hp
    exact ⟨_, 0, rfl, hg.lt, hg.cell rfl, hg.cell rfl⟩
  have hN : Nums .u32 wc (some ⟨w.heap.size + 1, 0, none⟩) 1 [7] := by
    refine ⟨rfl, by omega, by simp [Lit.wf]; decide, fun i z hz => ?_⟩
    obtain rfl : 0 = i := by cases i with | zero => rfl | succ i => simp at hz
    simp at hz
    subst hz
    exact ⟨_, 0, rfl, hd.lt, hd.cell rfl⟩
  have hput := pputSack 5 6 (some ⟨w.heap.size, 0, none⟩) 1 1 [(2, 3)] (some ⟨w.heap.size + 1, 0, none⟩) 1 1 [7] wc hP hN (by omega) (by omega) (by omega) (by omega) (by omega) (by omega)
  have HP := Lib.hid hput
  have H0 := Lib.hid (And.intro hP (And.intro hN (And.intro hAc (hba.trans ((hbb.trans (hbc.mono hbb.size)).mono hba.size)))))
  have e0 := hAc.cell (i := 0) rfl
  have e1 := hAc.cell (i := 1) rfl
  have e2 := hAc.cell (i := 2) rfl
  have e3 := hAc.cell (i := 3) rfl
  clear hba hAa hbb hAb hbc hAc hg hd hP hN hput
  go_enter Try.func13, Try.ntmps13
  go_wp2_with fail
  refine HP.out.mono ?_
  rintro e w1 ⟨a1, c1, rfl, hb1, hr1⟩
  rw [show (sackB 5 6 [(2, 3)] [7]).length = 20 from bodyW_len] at hr1 ⊢
  obtain ⟨w2, hw2⟩ : ∃ w2, w1.alloc (.cells #[.int .u8 3, .int .u8 0, .slice a1 20 c1] 28) = w2 := ⟨_, rfl⟩
  have hb2 : Below w1.heap.size w1 w2 := by rw [← hw2]; exact chunkBelow _ _ _ _
  have hA2 : Arr w2 w1.heap.size 28 [.int .u8 3, .int .u8 0, .slice a1 20 c1] := by rw [← hw2]; exact chunkBox _ _ _ _
  have hr2 := hr1.reads.below hb2
  have hb02 := hb1.trans (hb2.mono hb1.size)
  have f0 := hA2.cell (i := 0) rfl
  have f1 := hA2.cell (i := 1) rfl
  have f2 := hA2.cell (i := 2) rfl
  have hbyt : Byt bodyW := sackB_byt _ _ _ _
  have hget := pgetSack 3 0 a1 20 c1 bodyW w2 hr2 hbyt hr1.le (by omega)
  rw [bodyW_ok.1, bodyW_ok.2.1, bodyW_ok.2.2.1, bodyW_ok.2.2.2.1, bodyW_ok.2.2.2.2] at hget
  have HG := Lib.hid hget
  have H2 := Lib.hid (And.intro hb02 (And.intro hA2 (And.intro hr2 hr1.le)))
  clear hget hb1 hr1 hb2 hA2 hr2 hb02 HP e0 e1 e2 e3
  go_wp2_with fail
  refine HG.out.mono ?_
  rintro e w3 ⟨a3, c3, b3, d3, hch, hb3, hp3, hn3⟩
  obtain rfl : e = .returned (.tuple #[.agg #[.int .u32 5, .int .u32 6, .slice a3 1 c3, .slice b3 1 d3], .int .i64 0]) := by
    rcases hch with ⟨_, h⟩ | ⟨h, _⟩
    · exact h
    · cases h
  obtain ⟨w4, hw4⟩ : ∃ w4, w3.alloc (.cells #[.int .u32 5, .int .u32 6, .slice a3 1 c3, .slice b3 1 d3] 52) = w4 := ⟨_, rfl⟩
  have hb4 : Below w3.heap.size w3 w4 := by rw [← hw4]; exact (Below.refl _ _).alloc (Nat.le_refl _) _
  have hA4 : Arr w4 w3.heap.size 52 [.int .u32 5, .int .u32 6, .slice a3 1 c3, .slice b3 1 d3] := by rw [← hw4]; exact arr_new _ _ _
  have hb24 := hb3.trans (hb4.mono hb3.size)
  have hA24 := H2.out.2.1.keep hb24
  have g0 := hA24.cell (i := 0) rfl
  have g1 := hA24.cell (i := 1) rfl
  have g2 := hA24.cell (i := 2) rfl
  have hdat := pgetData 3 0 a1 20 c1 bodyW w4 (H2.out.2.2.1.below hb24) (sackB_byt _ _ _ _) H2.out.2.2.2 (by omega)
  have HD := Lib.hid hdat
  have H4 := Lib.hid (And.intro (H2.out.1.trans (hb24.mono H2.out.1.size)) (And.intro hA24 (And.intro hA4 (And.intro (hp3.below hb4 (Nat.le_refl _)) (hn3.below hb4 (Nat.le_refl _))))))
  clear hdat hb4 hA4 hb24 hA24 hb3 hp3 hn3 hch HG f0 f1 f2 hbyt
  go_wp2_with fail
  refine HD.out.mono ?_
  rintro e w5 ⟨a5, c5, hch, hb5, _⟩
  obtain rfl : e = .returned (.tuple #[dataZ, .int .i64 7]) := by
    rw [bodyW_data] at hch
    rcases hch with ⟨h, _⟩ | ⟨_, h⟩
    · cases h
    · exact h
  unfold dataZ
  have hb6 : Below w5.heap.size w5 (w5.alloc (.cells #[.int .u32 0, .int .u16 0, .int .u16 0, .bool false, .bool false, .bool false, .slice none 0 0] 26)) := (Below.refl _ _).alloc (Nat.le_refl _) _
  have hb46 := hb5.trans (hb6.mono hb5.size)
  have hc6 := H4.out.2.1.keep hb46
  have ht6 := H4.out.2.2.1.keep hb46
  have hs6 := (H0.out.2.2.1.keep H4.out.1).keep hb46
  have i0 := hc6.cell (i := 0) rfl
  have i1 := hc6.cell (i := 1) rfl
  have i2 := hc6.cell (i := 2) rfl
  have j0 := ht6.cell (i := 0) rfl
  have j1 := ht6.cell (i := 1) rfl
  have j2 := ht6.cell (i := 2) rfl
  have j3 := ht6.cell (i := 3) rfl
  have k0 := hs6.cell (i := 0) rfl
  have k1 := hs6.cell (i := 1) rfl
  have k2 := hs6.cell (i := 2) rfl
  have k3 := hs6.cell (i := 3) rfl
  have hsm := sameSack_yes 5 6 (some ⟨w.heap.size, 0, none⟩) a3 (some ⟨w.heap.size + 1, 0, none⟩) b3 1 1 c3 1 1 d3 [(2, 3)] [7] (w5.alloc (.cells #[.int .u32 0, .int .u16 0, .int .u16 0, .bool false, .bool false, .bool false, .slice none 0 0] 26))
    ((H0.out.1.below H4.out.1 (Nat.le_refl _)).below hb46 (Nat.le_refl _)) (H4.out.2.2.2.1.below hb46 (Nat.le_refl _)) ((H0.out.2.1.below H4.out.1 (Nat.le_refl _)).below hb46 (Nat.le_refl _)) (H4.out.2.2.2.2.below hb46 (Nat.le_refl _)) (by omega) (by omega)
  have HSM := Lib.hid hsm
  have HB := Lib.hid (H0.out.2.2.2.trans ((H4.out.1.trans (hb46.mono H4.out.1.size)).mono H0.out.2.2.2.size))
  clear hsm hb5 hb6 hb46 hc6 ht6 hs6 HD H4 H2 H0 g0 g1 g2 hch
  go_wp2_with fail
  refine HSM.out.mono ?_
  rintro e w7 ⟨rfl, hb7⟩
  have hbb := Lib.hid (HB.out.trans (hb7.mono HB.out.size))
  clear hb7 HSM HB
  go_wp2
  go_ret
  exact ⟨rfl, hbb.out⟩

set_option maxHeartbeats 800000 in
theorem large_any (k f : Int) (a : Option Addr) (n c : Nat) (w : World) (b : Bool) (hb : b = decide (8192 < n)) :
    Calls Try.prog 12 #[.agg #[.int .u8 k, .int .u8 f, .slice a n c]] w fun e w' => e = .returned (.bool b) ∧ Below w.heap.size w w' := by
  have hbb := chunkBelow w k f (.slice a n c)
  have ha := chunkBox w k f (.slice a n c)
  have c2 := ha.cell (i := 2) rfl
  have HB := Lib.hid hbb
  clear hbb ha
  by_cases h : 8192 < n
  · have hg : (8192 : Int) < n := by omega
    rw [show b = true by rw [hb]; simpa using h]
    clear hb h
    go_enter Try.func12, Try.ntmps12
    go_wp2
    go_ret
    exact ⟨rfl, HB.out⟩
  · have hg : ¬ (8192 : Int) < n := by omega
    rw [show b = false by rw [hb]; simpa using h]
    clear hb h
    go_enter Try.func12, Try.ntmps12
    go_wp2
    go_ret
    exact ⟨rfl, HB.out⟩
end Go.Proofs.Ytlihcckgnnnekaa
