/-
  The program's mac: the closure that masks a block.
-/
import Derived.Test.YtcmaclaiholpfaaDoorMacMath
import Derived.Test.YtcmaclaiholpfaaDoorShaP4
namespace Go.Proofs.YtcmaclaiholpfaaDoor
open Go.RowKit
set_option linter.unusedVariables false

/-- The first k bytes are turned. -/
def half (m : Int) (Z : List Int) (k : Nat) : List Int := turned m (Z.take k) ++ Z.drop k
theorem half_len (m : Int) (Z : List Int) (k : Nat) : (half m Z k).length = Z.length := by simp [half, turned]; omega
theorem half_zero (m : Int) (Z : List Int) : half m Z 0 = Z := by simp [half, turned]
theorem half_all (m : Int) (Z : List Int) {k : Nat} (h : Z.length ≤ k) : half m Z k = turned m Z := by
  unfold half
  rw [List.take_of_length_le h, List.drop_eq_nil_of_le h, List.append_nil]
theorem half_at (m : Int) {Z : List Int} {k : Nat} {x : Int} (h : Z[k]? = some x) : (half m Z k)[k]? = some x := by
  have hk := (List.getElem?_eq_some_iff.1 h).1
  have e : (turned m (Z.take k)).length = k := by rw [turned_len]; simp; omega
  unfold half
  rw [List.getElem?_append_right (by omega), e, Nat.sub_self, List.getElem?_drop]
  simpa using h
theorem half_step (m : Int) {Z : List Int} {k : Nat} {x : Int} (h : Z[k]? = some x) : (half m Z k).set k (bits .xor .u8 x m) = half m Z (k + 1) := by
  obtain ⟨hk, hx⟩ := List.getElem?_eq_some_iff.1 h
  have e : (turned m (Z.take k)).length = k := by rw [turned_len]; simp; omega
  unfold half
  rw [List.drop_eq_getElem_cons hk, set_mid _ _ _ _ _ e.symm, List.take_succ_eq_append_getElem hk, hx]
  simp [turned]

set_option maxRecDepth 100000 in
set_option maxHeartbeats 1600000 in
theorem mmask_any (w : World) (g : Nat) (Z : List Int) (m : Int) (hg : Arr w g 58 (Z.map (Value.int .u8))) (hl : Z.length = 64) :
    Calls Tryd.prog 41 #[.int .u8 m, .pointer (some ⟨g, 0, none⟩)] w fun e w' => e = .returned (dv (turned m Z)) ∧ Below w.heap.size w w' := by
  obtain ⟨Y, hY⟩ : ∃ Y, Y = Z.map (Value.int .u8) := ⟨_, rfl⟩
  obtain ⟨O, hO⟩ : ∃ O, O = (List.replicate 64 (Value.int .u8 0)) := ⟨_, rfl⟩
  have hyl : Y.length = 64 := by rw [hY]; simpa using hl
  have hol : O.length = 64 := by rw [hO]; simp
  have infoY : (Tryd.prog.info? 58).map (·.size) = some Y.length := by rw [hyl]; exact infoB64
  have honeY : Y.toArray.all (·.oneCell') = true := by rw [hY]; exact dv_one _
  have hlt := (Array.getElem?_eq_some_iff.1 hg).1
  rw [← hY] at hg
  obtain ⟨w0, hw0⟩ : ∃ w0, w0 = w.alloc (.cells O.toArray 58) := ⟨_, rfl⟩
  have hb0 : Below w.heap.size w w0 := by rw [hw0]; exact (Below.refl _ _).alloc (Nat.le_refl _) _
  have hr0 : Arr w0 w.heap.size 58 O := by rw [hw0]; exact arr_new w 58 O
  have hsz0 : w0.heap.size = w.heap.size + 1 := by rw [hw0]; simp
  have hg0 : Arr w0 g 58 Y := hg.below hb0 hlt
  obtain ⟨w1, hw1⟩ : ∃ w1, w1 = w0.alloc (.cells Y.toArray 58) := ⟨_, rfl⟩
  have hb1 : Below w.heap.size w w1 := by rw [hw1]; exact hb0.alloc (by omega) _
  have hr1 : Arr w1 w.heap.size 58 O := by rw [hw1]; exact hr0.below ((Below.refl w0.heap.size _).alloc (Nat.le_refl _) _) (by omega)
  have ha1 : Arr w1 (w.heap.size + 1) 58 Y := by rw [hw1, ← hsz0]; exact arr_new w0 58 Y
  have hsz1 : w1.heap.size = w.heap.size + 2 := by rw [hw1]; simp [hsz0]
  have H0 := Lib.hid (And.intro hg0.range (And.intro hsz0 (And.intro hyl hol)))
  have H1 := Lib.hid (And.intro hb1 (And.intro hr1 ha1))
  have HY := Lib.hid (And.intro hY (And.intro hO (And.intro hw0 hw1)))
  have HL := Lib.hid hl
  clear hg hb0 hr0 hg0 hb1 hr1 ha1 hsz1 hw1 hw0 hY hyl hol hl hsz0
  go_enter Tryd.func41, Tryd.ntmps41
  go_wp2_with (first
    | refine wpList_load_mid rfl 58 (.tmp 1) rfl g 0 rfl Y (.array 64 5) (by have := H0.out.1; rw [HY.out.2.2.1, HY.out.2.1] at this; exact this) (by kernel_rfl) rfl infoY ?_
    | refine wpList_store_fresh rfl 58 (.tmp 4) (.tmp 6) rfl _ _ (by simp) _ Y.toArray rfl rfl (by simpa using infoY) (by simp [H0.out.2.2.1]) honeY ?_)
  go_loopw [7] (fun i wr => ∃ k : Nat, k ≤ 64 ∧ i = .int .i64 k ∧ Arr wr (w.heap.size + 1) 58 ((half m Z k).map (Value.int .u8)) ∧ Arr wr w.heap.size 58 O ∧ Below w.heap.size w wr) (fun i _ => 64 - (intOf i).toNat)
  case atStart =>
    have e := HY.out.2.2.2
    rw [HY.out.2.2.1, HY.out.2.1] at e
    have h1 := H1.out
    rw [e] at h1
    refine ⟨0, by omega, rfl, ?_, h1.2.1, h1.1⟩
    rw [half_zero, ← HY.out.1]
    exact h1.2.2
  case round =>
    obtain ⟨k, hk, rfl, ha, hr, hb⟩ := hrel
    by_cases hk64 : k < 64
    · obtain ⟨x, gx⟩ : ∃ x, Z[k]? = some x := ⟨Z[k]'(by rw [HL.out]; exact hk64), by simp⟩
      have gk : (k : Int) < 64 := by omega
      have ca := ha.cell (i := k) (v := .int .u8 x) (by rw [List.getElem?_map, half_at m gx]; rfl)
      have fa := ha.free k
      have ha2 := ha.set k (.int .u8 (bits .xor .u8 x m))
      rw [← List.map_set, half_step m gx] at ha2
      have hr2 : Arr (wr.setCell ⟨w.heap.size + 1, k, none⟩ (.int .u8 (bits .xor .u8 x m))) w.heap.size 58 O := hr.off _ (by simp)
      have hb2 : Below w.heap.size w (wr.setCell ⟨w.heap.size + 1, k, none⟩ (.int .u8 (bits .xor .u8 x m))) := hb.setCell (by simp) _
      have HM := Lib.hid (And.intro ha2 (And.intro hr2 hb2))
      clear ha hr hb ha2 hr2 hb2 gx
      go_wp2
      go_roundw
      case rel => exact ⟨k + 1, by omega, by go_num, HM.out.1, HM.out.2.1, HM.out.2.2⟩
      case measure => simp [intOf]; omega
    · obtain rfl : k = 64 := by omega
      rw [show ((64 : Nat) : Int) = 64 from rfl]
      rw [half_all m Z (by rw [HL.out]; exact Nat.le_refl _)] at ha
      obtain ⟨X, hX⟩ : ∃ X, X = (turned m Z).map (Value.int .u8) := ⟨_, rfl⟩
      have hxl : X.length = 64 := by rw [hX, List.length_map, turned_len, HL.out]
      have infoX : (Tryd.prog.info? 58).map (·.size) = some X.length := by rw [hxl]; exact infoB64
      have hone : X.toArray.all (·.oneCell') = true := by rw [hX]; exact dv_one _
      rw [← hX] at ha
      have HX := Lib.hid hX
      have HM := Lib.hid (And.intro ha (And.intro hr (And.intro hb hxl)))
      clear ha hr hb hX hxl
      go_upto_region 7 with fail
      refine wp_region_lit ?_
      refine wpList_load_mid rfl 58 (.tmp 4) rfl (w.heap.size + 1) 0 rfl X (.array 64 5) HM.out.1.range (by kernel_rfl) rfl infoX ?_
      refine wpList_store_mid rfl 58 (.tmp 3) (.tmp 17) rfl w.heap.size 0 X.toArray rfl (Vals.eval_put_self _ _ _ (show 17 < 18 by decide)) (there_of_arr HM.out.2.1 (by simp [HM.out.2.2.2, H0.out.2.2.2])) (by simpa using infoX) hone ?_
      have hend := World.rangeAt_setCells_same wr w.heap.size 0 X (there_of_arr HM.out.2.1 (by simp [HM.out.2.2.2, H0.out.2.2.2]))
      have hbl := below_setCells w.heap.size w.heap.size (Nat.le_refl _) X 0 w wr HM.out.2.2.1
      have HEND := Lib.hid (And.intro hend hbl)
      clear hend hbl
      rw [show X.toArray.toList = X from rfl]
      generalize wr.setCells w.heap.size 0 X = wend at *
      go_wp2
      refine bodyPost_ret (v := .agg X.toArray) ?_ rfl ⟨by rw [HX.out], HEND.out.2⟩
      rw [results_one rfl]
      show Result.andThen ((asAddr (.pointer (some ⟨w.heap.size, 0, none⟩))).run Tryd.prog wend) _ = _
      simp only [asAddr, Sem.run_pure, Result.andThen_ok]
      exact run_loadVar_mid wend w.heap.size 0 58 X (.array 64 5) HEND.out.1 (by kernel_rfl) rfl infoX
end Go.Proofs.YtcmaclaiholpfaaDoor
