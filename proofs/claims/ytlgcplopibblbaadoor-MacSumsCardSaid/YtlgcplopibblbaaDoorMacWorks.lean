/-
  The anchor of stage 7's laws.
-/
import Derived.Test.YtlgcplopibblbaaDoorMacP4
import Derived.Test.YtlgcplopibblbaaDoorMacRef2
import Derived.Test.YtlgcplopibblbaaDoorMacSame
namespace Go.Proofs.YtlgcplopibblbaaDoor
open Go.RowKit
set_option linter.unusedVariables false

theorem same_one (W : World) : Calls Tryd.prog 15 #[.slice (some ⟨W.heap.size, 0, none⟩) 1 1, .slice (some ⟨W.heap.size + 1, 0, none⟩) 1 1] ((W.alloc (.cells #[.int .u8 1] 5)).alloc (.cells #[.int .u8 1] 5))
    fun e w' => e = .returned (.bool true) ∧ ((W.alloc (.cells #[.int .u8 1] 5)).alloc (.cells #[.int .u8 1] 5)) = w' := by
  have h1 : Blk (W.alloc (.cells #[.int .u8 1] 5)) W.heap.size [1] := heap_alloc_new _ _
  have h2 : Blk ((W.alloc (.cells #[.int .u8 1] 5)).alloc (.cells #[.int .u8 1] 5)) (W.heap.size + 1) [1] := by
    rw [show W.heap.size + 1 = (W.alloc (.cells #[.int .u8 1] 5)).heap.size by simp]
    exact heap_alloc_new _ _
  have h1' := (h1.readsAll 1 rfl).below ((Below.refl _ (W.alloc (.cells #[.int .u8 1] 5))).alloc (Nat.le_refl _) (.cells #[.int .u8 1] 5))
  have b1 : Byt [1] := Byt.one (by omega) (by omega)
  exact msame_any _ _ 1 1 1 1 [1] [1] _ h1' (h2.readsAll 1 rfl) b1 b1 (by omega) (by omega)
theorem same_nil (W : World) : Calls Tryd.prog 15 #[.slice (some ⟨W.heap.size, 0, none⟩) 1 1, .slice none 0 0] (W.alloc (.cells #[.int .u8 1] 5))
    fun e w' => e = .returned (.bool false) ∧ W.alloc (.cells #[.int .u8 1] 5) = w' := by
  have h1 : Blk (W.alloc (.cells #[.int .u8 1] 5)) W.heap.size [1] := heap_alloc_new _ _
  have b1 : Byt [1] := Byt.one (by omega) (by omega)
  exact msame_any _ none 1 1 0 0 [1] [] _ (h1.readsAll 1 rfl) (Reads.zero _ _) b1 Byt.nil (by omega) (by omega)

set_option maxRecDepth 100000 in
set_option maxHeartbeats 1600000 in
theorem works_any (w : World) (ht : Tab w) : Calls Tryd.prog 8 #[] w fun e w' => e = .returned (.bool true) ∧ Below w.heap.size w w' := by
  have hcv := fun W g n c => run_convert_mark (P := Tryd.prog) W 22 5 g n c Tryd.underlying22 Tryd.underlying5
  obtain ⟨wa, hwa⟩ : ∃ wa, markW (w.alloc (.cells #[.int .u8 74, .int .u8 101, .int .u8 102, .int .u8 101] 5)) w.heap.size = wa := ⟨_, rfl⟩
  have hba : Below w.heap.size w wa := by rw [← hwa]; exact below_mark ((Below.refl _ _).alloc (Nat.le_refl _) _) (Nat.le_refl _)
  have hsa : wa.heap.size = w.heap.size + 1 := by rw [← hwa, markW_size]; simp
  have hra : Reads wa (some ⟨w.heap.size, 0, none⟩) 4 jefe := by rw [← hwa]; exact (Blk.readsAll (by unfold Blk; exact heap_alloc_new _ _) 4 rfl).mark _
  obtain ⟨wb, hwb⟩ : ∃ wb, markW (wa.alloc (.cells #[.int .u8 119, .int .u8 104, .int .u8 97, .int .u8 116, .int .u8 32, .int .u8 100, .int .u8 111, .int .u8 32, .int .u8 121, .int .u8 97, .int .u8 32, .int .u8 119, .int .u8 97, .int .u8 110, .int .u8 116, .int .u8 32, .int .u8 102, .int .u8 111, .int .u8 114, .int .u8 32, .int .u8 110, .int .u8 111, .int .u8 116, .int .u8 104, .int .u8 105, .int .u8 110, .int .u8 103, .int .u8 63] 5)) wa.heap.size = wb := ⟨_, rfl⟩
  have hbb : Below wa.heap.size wa wb := by rw [← hwb]; exact below_mark ((Below.refl _ _).alloc (Nat.le_refl _) _) (by omega)
  have hrb : Reads wb (some ⟨wa.heap.size, 0, none⟩) 28 jefeText := by
    rw [← hwb]
    exact (Blk.readsAll (by unfold Blk; exact heap_alloc_new _ _) 28 rfl).mark _
  have hb0 : Below w.heap.size w wb := hba.trans (hbb.mono hba.size)
  have hs := msum_any (some ⟨w.heap.size, 0, none⟩) 4 4 jefe (some ⟨wa.heap.size, 0, none⟩) 28 28 jefeText wb (hra.below hbb) (by intro z hz; simp [jefe] at hz; omega) (by omega) (by omega) hrb (by intro z hz; simp [jefeText] at hz; omega) (by omega) (by omega) (ht.below hb0 ht.lt)
  obtain ⟨h0, h1, h31⟩ := hmac_jefe
  have hl := hmac_len jefe jefeText
  generalize hmac jefe jefeText = D at *
  have HD := Lib.hid (And.intro h0 (And.intro h1 (And.intro h31 hl)))
  have HB0 := Lib.hid (And.intro hb0 hb0.size)
  have HS := Lib.hid hs
  clear h0 h1 h31 hl hb0 hs hba hsa hra hbb hrb ht
  go_enter Tryd.func8, Tryd.ntmps8
  go_wp2_with fail
  clear hcv
  refine HS.out.mono ?_
  rintro e w1 ⟨rfl, hb⟩
  have hb1 : Below w.heap.size w w1 := HB0.out.1.trans (hb.mono HB0.out.2)
  have HB1 := Lib.hid (And.intro hb1 hb1.size)
  clear hb hb1 hwa hwb HS
  have hl := HD.out.2.2.2
  have d0 : D[0] = 91 := at_get HD.out.1
  have d1 : D[1] = 220 := at_get HD.out.2.1
  have d31 : D[31] = 67 := at_get HD.out.2.2.1
  go_wp2_with (refine wpList_store_new rfl 25 (.tmp 1) (.tmp 6) rfl w1 _ D rfl rfl infoA HD.out.2.2.2 rfl ?_)
  have hs1 := same_one (w1.alloc (.cells (D.map (Value.int .u8)).toArray 25))
  rw [show (w1.alloc (.cells (D.map (Value.int .u8)).toArray 25)).heap.size = w1.heap.size + 1 by simp] at hs1
  refine hs1.mono ?_
  rintro e w' ⟨rfl, rfl⟩
  clear hs1
  go_wp2_with fail
  have hs2 := same_nil (((w1.alloc (.cells (D.map (Value.int .u8)).toArray 25)).alloc (.cells #[.int .u8 1] 5)).alloc (.cells #[.int .u8 1] 5))
  rw [show (((w1.alloc (.cells (D.map (Value.int .u8)).toArray 25)).alloc (.cells #[.int .u8 1] 5)).alloc (.cells #[.int .u8 1] 5)).heap.size = w1.heap.size + 1 + 1 + 1 by simp] at hs2
  refine hs2.mono ?_
  rintro e w' ⟨rfl, rfl⟩
  clear hs2
  have hend : Below w.heap.size w ((((w1.alloc (.cells (D.map (Value.int .u8)).toArray 25)).alloc (.cells #[.int .u8 1] 5)).alloc (.cells #[.int .u8 1] 5)).alloc (.cells #[.int .u8 1] 5)) :=
    (((HB1.out.1.alloc HB1.out.2 _).alloc (by simp; have := HB1.out.2; omega) _).alloc (by simp; have := HB1.out.2; omega) _).alloc (by simp; have := HB1.out.2; omega) _
  have HE := Lib.hid hend
  clear hend
  go_wp2
  go_ret
  exact ⟨rfl, HE.out⟩
end Go.Proofs.YtlgcplopibblbaaDoor
