/-
  The reference of layer 8: Read.
-/
import Derived.Test.YtoahkigmbmdniaaCkR5
import Derived.Test.YtoahkigmbmdniaaCkRW
namespace Go.Proofs.Ytoahkigmbmdniaa
open Go.RowKit
set_option linter.unusedVariables false

set_option maxHeartbeats 800000 in
theorem rread_no1 (a : Option Addr) (n c : Nat) (zs : List Int) (w : World) (hr : Reads w a n zs) (hc : n ≤ c) (hn : n < 4) :
    Calls Try.prog 19 #[.slice a n c] w fun e w' => e = .returned noChunk ∧ Below w.heap.size w w' := by
  obtain ⟨wB, hwB⟩ : ∃ wB, w.alloc (.cells #[.int .u8 0, .int .u8 0, .slice none 0 0] 24) = wB := ⟨_, rfl⟩
  have hbB : Below w.heap.size w wB := by rw [← hwB]; exact (Below.refl _ _).alloc (Nat.le_refl _) _
  have hcB : Arr wB w.heap.size 24 [.int .u8 0, .int .u8 0, .slice none 0 0] := by rw [← hwB]; exact arr_new _ _ _
  have hget := getR_no a n c 2 2 zs wB (hr.below hbB) hc (by omega) (by omega) (by omega) (by unfold sizB hasB; simp; omega)
  have HG := Lib.hid hget
  have HB := Lib.hid (And.intro hbB hcB)
  clear hget hr hn hbB hcB
  go_enter Try.func19, Try.ntmps19
  go_wp2_with fail
  refine HG.out.mono ?_
  rintro e w1 ⟨rfl, hb1⟩
  have hc1 := HB.out.2.keep hb1
  have f0 := hc1.free 0
  have f1 := hc1.free 1
  have f2 := hc1.free 2
  have c0 := hc1.cell (i := 0) rfl
  have c1 := hc1.cell (i := 1) rfl
  have c2 := hc1.cell (i := 2) rfl
  have hend := box3 hc1 (.int .u8 0) (.int .u8 0) (.slice none 0 0)
  have hbl := below3 (HB.out.1.trans (hb1.mono HB.out.1.size)) (Nat.le_refl _) (.int .u8 0) (.int .u8 0) (.slice none 0 0) (g := w.heap.size)
  have HE := Lib.hid (And.intro hend hbl)
  clear hend hbl hb1 hc1 HG HB
  go_wp2_with fail
  have d0 := HE.out.1.cell (i := 0) rfl
  have d1 := HE.out.1.cell (i := 1) rfl
  have d2 := HE.out.1.cell (i := 2) rfl
  have hbl := HE.out.2
  clear HE c0 c1 c2 f0 f1 f2 hwB
  generalize ((w1.setCell _ _).setCell _ _).setCell _ _ = W at *
  exact bodyPost_ret (by simp [results, Try.results19, go_sem, d0, d1, d2]; rfl) rfl ⟨rfl, hbl⟩

set_option maxHeartbeats 800000 in
theorem rread_no2 (a : Option Addr) (n c : Nat) (zs : List Int) (w : World) (hr : Reads w a n zs) (hb : Byt zs) (hc : n ≤ c) (hn4 : 4 ≤ n) (hn : n ≤ 1099511627776) (hL : lenOf zs < 4 ∨ (n : Int) < lenOf zs) :
    Calls Try.prog 19 #[.slice a n c] w fun e w' => e = .returned noChunk ∧ Below w.heap.size w w' := by
  obtain ⟨wB, hwB⟩ : ∃ wB, w.alloc (.cells #[.int .u8 0, .int .u8 0, .slice none 0 0] 24) = wB := ⟨_, rfl⟩
  have hbB : Below w.heap.size w wB := by rw [← hwB]; exact (Below.refl _ _).alloc (Nat.le_refl _) _
  have hcB : Arr wB w.heap.size 24 [.int .u8 0, .int .u8 0, .slice none 0 0] := by rw [← hwB]; exact arr_new _ _ _
  have hget := getR_yes a n c 2 2 zs wB (hr.below hbB) hb hc (by omega) rfl (by omega)
  rw [show num ((zs.drop 2).take 2) = lenOf zs from rfl] at hget
  obtain ⟨l0, l1⟩ := lenOf_in hb
  generalize lenOf zs = L at *
  have HG := Lib.hid hget
  have HB := Lib.hid (And.intro hbB hcB)
  clear hget hr hb hbB hcB
  by_cases hL4 : L < 4
  all_goals
    first
      | (have hL2 : decide (L < 4) = true := by simpa using hL4)
      | (have hL2 : decide (L < 4) = false := by simpa using hL4
         have hL3 : (n : Int) < L := by omega
         have hL5 : ¬ L < 4 := hL4)
    clear hL
    go_enter Try.func19, Try.ntmps19
    go_wp2_with fail
    refine HG.out.mono ?_
    rintro e w1 ⟨rfl, hb1⟩
    have hc1 := HB.out.2.keep hb1
    have f0 := hc1.free 0
    have f1 := hc1.free 1
    have f2 := hc1.free 2
    have c0 := hc1.cell (i := 0) rfl
    have c1 := hc1.cell (i := 1) rfl
    have c2 := hc1.cell (i := 2) rfl
    have hend := box3 hc1 (.int .u8 0) (.int .u8 0) (.slice none 0 0)
    have hbl := below3 (HB.out.1.trans (hb1.mono HB.out.1.size)) (Nat.le_refl _) (.int .u8 0) (.int .u8 0) (.slice none 0 0) (g := w.heap.size)
    have HE := Lib.hid (And.intro hend hbl)
    clear hend hbl hb1 hc1 HG HB
    go_wp2_with fail
    have d0 := HE.out.1.cell (i := 0) rfl
    have d1 := HE.out.1.cell (i := 1) rfl
    have d2 := HE.out.1.cell (i := 2) rfl
    have hbl := HE.out.2
    clear HE c0 c1 c2 f0 f1 f2 hwB
    generalize ((w1.setCell _ _).setCell _ _).setCell _ _ = W at *
    exact bodyPost_ret (by simp [results, Try.results19, go_sem, d0, d1, d2]; rfl) rfl ⟨rfl, hbl⟩
end Go.Proofs.Ytoahkigmbmdniaa
