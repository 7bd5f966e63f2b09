/-
  The program's sha: the digest of a state.
-/
import Derived.Test.YtcmaclaiholpfaaDoorShaP2
namespace Go.Proofs.YtcmaclaiholpfaaDoor
open Go.RowKit
set_option linter.unusedVariables false

theorem outs_at (hs : List Nat) {i k x : Nat} (hi : i < 8) (hk : k < 4) (hx : hs[i]? = some x) : (outs hs (4 * i + k)).set (4 * i + k) (.int .u8 ((x : Int) / 2 ^ (24 - 8 * k) % 256)) = outs hs (4 * i + k + 1) := by
  have e1 : (4 * i + k) / 4 = i := by omega
  have e2 : (4 * i + k) % 4 = k := by omega
  have h := outs_step hs (k := 4 * i + k) (x := x) (by rw [e1]; exact hx) (by omega)
  rw [e2] at h
  rw [← h, cast_byte]
theorem info32 : (Tryd.prog.info? 46).map (·.size) = some 32 := by kernel_rfl

set_option maxRecDepth 100000 in
set_option maxHeartbeats 1600000 in
theorem pdigest_any (w : World) (sb : Nat) (A : List Nat) (B : List Int) (n : Nat) (hr : Raw w sb A B n) (ht : Tab w) :
    Calls Tryd.prog 56 #[.pointer (some ⟨sb, 0, none⟩)] w fun e w' => e = .returned (.agg ((digest (addL H0s A)).map (Value.int .u8)).toArray) ∧ Below w.heap.size w w' := by
  have HR := Lib.hid hr
  have HT := Lib.hid ht
  have hlt := hr.lt
  have h8 := eight_add eight_H0 hr.a
  obtain ⟨w0, hw0⟩ : ∃ w0, w0 = (w.alloc (.cells (List.replicate 32 (Value.int .u8 0)).toArray 46)).alloc (.cells (List.replicate 32 (Value.int .u8 0)).toArray 46) := ⟨_, rfl⟩
  have hb0 : Below w.heap.size w w0 := by rw [hw0]; exact ((Below.refl _ _).alloc (Nat.le_refl _) _).alloc (by simp) _
  have ho0 : Arr w0 (w.heap.size + 1) 46 (List.replicate 32 (.int .u8 0)) := by
    rw [hw0]
    have := arr_new (w.alloc (.cells (List.replicate 32 (Value.int .u8 0)).toArray 46)) 46 (List.replicate 32 (Value.int .u8 0))
    simpa using this
  have hr0 : Arr w0 w.heap.size 46 (List.replicate 32 (.int .u8 0)) := by
    rw [hw0]
    exact (arr_new w 46 (List.replicate 32 (Value.int .u8 0))).below ((Below.refl (w.heap.size + 1) _).alloc (by simp) _) (by omega)
  have hs0 : w0.heap.size = w.heap.size + 2 := by rw [hw0]; simp
  have hcall := pwords_any w0 sb A B n (hr.below hb0) (ht.below hb0 ht.lt)
  generalize addL H0s A = hs at *
  have H0 := Lib.hid (And.intro hb0 (And.intro ho0 (And.intro hr0 hs0)))
  have HC := Lib.hid hcall
  have HW0 := Lib.hid hw0
  have HE := Lib.hid h8
  clear hr ht hb0 ho0 hr0 hs0 hcall hw0 h8
  go_enter Tryd.func56, Tryd.ntmps56
  go_wp2_with fail
  have HC' := HC.out
  rw [HW0.out] at HC'
  refine HC'.mono ?_
  rintro e w1 ⟨rfl, hb1⟩
  rw [show ((w.alloc (.cells (List.replicate 32 (Value.int .u8 0)).toArray 46)).alloc (.cells (List.replicate 32 (Value.int .u8 0)).toArray 46)) = w0 from HW0.out.symm] at hb1
  have hb1w : Below w.heap.size w w1 := H0.out.1.trans (hb1.mono (by rw [H0.out.2.2.2]; omega))
  have ho1 := H0.out.2.1.below hb1 (by rw [H0.out.2.2.2]; omega)
  have hr1 := H0.out.2.2.1.below hb1 (by rw [H0.out.2.2.2]; omega)
  have H1 := Lib.hid (And.intro hb1w (And.intro ho1 hr1))
  obtain ⟨Y, hY⟩ : ∃ Y, Y = (hs.map word) := ⟨_, rfl⟩
  have HY := Lib.hid hY
  rw [← hY]
  clear HC HC' hb1 hb1w ho1 hr1 hY
  go_wp2
  go_loopw [9] (fun i wr => ∃ k : Nat, k ≤ 8 ∧ i = .int .i64 k ∧ Arr wr (w.heap.size + 1) 46 (outs hs (4 * k)) ∧ Arr wr w.heap.size 46 (List.replicate 32 (.int .u8 0)) ∧ Below w.heap.size w wr) (fun i _ => 8 - (intOf i).toNat)
  case atStart => exact ⟨0, by omega, rfl, by rw [Nat.mul_zero, outs_zero]; exact H1.out.2.1, H1.out.2.2, H1.out.1⟩
  case round =>
    obtain ⟨i, hi, rfl, ho, hr, hb⟩ := hrel
    by_cases hi8 : i < 8
    · obtain ⟨x, lx, gx⟩ := HE.out.at hi8
      have hix := idx8 hs i x hi8 gx
      rw [← HY.out] at hix
      have gi : (i : Int) < 8 := by omega
      have GX := Lib.hid gx
      have HI := Lib.hid (And.intro ho (And.intro hr hb))
      clear ho hr hb gx
      go_wp2
      go_loopw [13] (fun j wr => ∃ k : Nat, k ≤ 4 ∧ j = .int .i64 k ∧ Arr wr (w.heap.size + 1) 46 (outs hs (4 * i + k)) ∧ Arr wr w.heap.size 46 (List.replicate 32 (.int .u8 0)) ∧ Below w.heap.size w wr) (fun j _ => 4 - (intOf j).toNat)
      case atStart => exact ⟨0, by omega, rfl, HI.out.1, HI.out.2.1, HI.out.2.2⟩
      case round =>
        obtain ⟨k, hk, rfl, ho, hr, hb⟩ := hrel
        by_cases hk4 : k < 4
        · have gk : (k : Int) < 4 := by omega
          have ca := ho.cell (i := 4 * i + k) (v := .int .u8 0) (outs_self hs (by omega))
          have fa := ho.free (4 * i + k)
          have ha2 := ho.set (4 * i + k) (.int .u8 ((x : Int) / 2 ^ (24 - 8 * k) % 256))
          rw [outs_at hs hi8 hk4 GX.out] at ha2
          have hr2 : Arr (wr.setCell ⟨w.heap.size + 1, 4 * i + k, none⟩ (.int .u8 ((x : Int) / 2 ^ (24 - 8 * k) % 256))) w.heap.size 46 (List.replicate 32 (.int .u8 0)) := hr.off _ (by simp)
          have hb2 : Below w.heap.size w (wr.setCell ⟨w.heap.size + 1, 4 * i + k, none⟩ (.int .u8 ((x : Int) / 2 ^ (24 - 8 * k) % 256))) := hb.setCell (by simp) _
          have q1 : IntKind.i64.wrap (4 * (i : Int)) = 4 * (i : Int) := by rw [IntKind.wrap_i64]; omega
          have q2 : IntKind.i64.wrap (4 * (i : Int) + (k : Int)) = 4 * (i : Int) + (k : Int) := by rw [IntKind.wrap_i64]; omega
          have q3 : (0 : Int) ≤ 4 * (i : Int) + (k : Int) := by omega
          have q4 : 4 * (i : Int) + (k : Int) < 32 := by omega
          have q5 : (4 * (i : Int) + (k : Int)).toNat = 4 * i + k := by omega
          have p1 : IntKind.i64.wrap (8 * (k : Int)) = 8 * (k : Int) := by rw [IntKind.wrap_i64]; omega
          have p2 : IntKind.i64.wrap (24 - 8 * (k : Int)) = 24 - 8 * (k : Int) := by rw [IntKind.wrap_i64]; omega
          have p3 : (0 : Int) ≤ 24 - 8 * (k : Int) := by omega
          have p4 : (24 - 8 * (k : Int)).toNat = 24 - 8 * k := by omega
          have p5 : 8 * (k : Int) ≤ 24 := by omega
          have HM := Lib.hid (And.intro ha2 (And.intro hr2 hb2))
          clear ho hr hb ha2 hr2 hb2
          go_wp2
          go_roundw
          case rel => exact ⟨k + 1, by omega, by go_num, by have := HM.out.1; rwa [Nat.add_assoc] at this, HM.out.2.1, HM.out.2.2⟩
          case measure => simp [intOf]; omega
        · obtain rfl : k = 4 := by omega
          have HM := Lib.hid (And.intro ho (And.intro hr hb))
          clear ho hr hb
          go_wp2
          go_roundw
          case rel => exact ⟨i + 1, by omega, by go_num, HM.out.1, HM.out.2.1, HM.out.2.2⟩
          case measure => simp [intOf]; omega
    · obtain rfl : i = 8 := by omega
      rw [show ((8 : Nat) : Int) = 8 from rfl]
      rw [show 4 * 8 = 32 from rfl, outs_all] at ho
      obtain ⟨Z, hZ⟩ : ∃ Z, Z = (digest hs).map (Value.int .u8) := ⟨_, rfl⟩
      have hzl : Z.length = 32 := by rw [hZ, List.length_map, digest_len]
      have infoZ : (Tryd.prog.info? 46).map (·.size) = some Z.length := by rw [hzl]; exact info32
      have hone : Z.toArray.all (·.oneCell') = true := by rw [hZ]; exact all_oneCell_toArray (by intro v hv; obtain ⟨z, _, rfl⟩ := List.mem_map.1 hv; rfl)
      rw [← hZ] at ho
      have HZ := Lib.hid hZ
      have HM := Lib.hid (And.intro ho (And.intro hr (And.intro hb hzl)))
      clear ho hr hb hZ hzl
      go_upto_region 11 with fail
      refine wp_region_lit ?_
      refine wpList_load_mid rfl 46 (.tmp 3) rfl (w.heap.size + 1) 0 rfl Z (.array 32 5) HM.out.1.range (by kernel_rfl) rfl infoZ ?_
      refine wpList_store_mid rfl 46 (.tmp 2) (.tmp 29) rfl w.heap.size 0 Z.toArray rfl (Vals.eval_put_self _ _ _ (show 29 < 30 by decide)) (there_of_arr HM.out.2.1 (by simp [HM.out.2.2.2])) (by simpa using infoZ) hone ?_
      have hend := World.rangeAt_setCells_same wr w.heap.size 0 Z (there_of_arr HM.out.2.1 (by simp [HM.out.2.2.2]))
      have hbl := below_setCells w.heap.size w.heap.size (Nat.le_refl _) Z 0 w wr HM.out.2.2.1
      have HEND := Lib.hid (And.intro hend hbl)
      clear hend hbl
      rw [show Z.toArray.toList = Z from rfl]
      generalize wr.setCells w.heap.size 0 Z = wend at *
      go_wp2
      refine bodyPost_ret (v := .agg Z.toArray) ?_ rfl ⟨by rw [HZ.out], HEND.out.2⟩
      rw [results_one rfl]
      show Result.andThen ((asAddr (.pointer (some ⟨w.heap.size, 0, none⟩))).run Tryd.prog wend) _ = _
      simp only [asAddr, Sem.run_pure, Result.andThen_ok]
      exact run_loadVar_mid wend w.heap.size 0 46 Z (.array 32 5) HEND.out.1 (by kernel_rfl) rfl infoZ
end Go.Proofs.YtcmaclaiholpfaaDoor
