/-
  The program's sha: Sum of bytes, and the contracts that the laws lean on.
-/
import Derived.Test.YtcmaclaiholpfaaDoorShaP10
namespace Go.Proofs.YtcmaclaiholpfaaDoor
open Go.RowKit
set_option linter.unusedVariables false

set_option maxRecDepth 100000 in
theorem sum_ok : SumOk := by
  intro a len cap zs w hr hz hl hc ht
  obtain ⟨O, hO⟩ : ∃ O, O = (List.replicate 32 (Value.int .u8 0)).toArray := ⟨_, rfl⟩
  obtain ⟨w0, hw0⟩ : ∃ w0, w0 = w.alloc (.cells O 46) := ⟨_, rfl⟩
  have hb0 : Below w.heap.size w w0 := by rw [hw0]; exact (Below.refl _ _).alloc (Nat.le_refl _) _
  have ho0 : Arr w0 w.heap.size 46 (List.replicate 32 (.int .u8 0)) := by rw [hw0, hO]; exact arr_new w 46 (List.replicate 32 (Value.int .u8 0))
  have hsz0 : w0.heap.size = w.heap.size + 1 := by rw [hw0]; simp
  have H0 := Lib.hid (And.intro hb0 (And.intro ho0 (And.intro hsz0 (And.intro (ht.below hb0 ht.lt) (And.intro (hr.below hb0) (And.intro hz ht))))))
  have HW := Lib.hid (And.intro hw0 hO)
  clear hb0 ho0 hsz0 hw0 hO ht hr hz
  go_enter Tryd.func53, Tryd.ntmps53
  go_wp2_with fail
  have hnew := pnew_any w0
  rw [HW.out.1, HW.out.2] at hnew
  refine hnew.mono ?_
  rintro e w1 ⟨rfl, hs1, hb1⟩
  rw [← HW.out.2, ← HW.out.1, H0.out.2.2.1] at hs1 hb1
  rw [show (w.alloc (.cells (List.replicate 32 (Value.int .u8 0)).toArray 46)).heap.size = w.heap.size + 1 by simp]
  have hb1w : Below w.heap.size w w1 := H0.out.1.trans (hb1.mono (by omega))
  have ho1 := H0.out.2.1.below hb1 (by omega)
  have ht1 := H0.out.2.2.2.1.below hb1 (fun g hg => by have := H0.out.2.2.2.2.2.2.lt g hg; omega)
  have hr1 : Reads w1 a len zs := H0.out.2.2.2.2.1.below (by rw [H0.out.2.2.1]; exact hb1)
  have hwr := pwrite_any w1 (w.heap.size + 1) [] a len cap zs hs1 H0.out.2.2.2.2.2.1 hr1 hc (by simp; omega) ht1 (fun g hg h => by have := H0.out.2.2.2.2.2.2.lt g hg; simp at h; omega)
    (fun h0 q hq h => by
      rcases H0.out.2.2.2.2.1.2 with h1 | ⟨b, off, hb, hlt, _⟩
      · omega
      · rw [hb] at hq; cases hq; rw [H0.out.2.2.1] at hlt; simp at h; omega)
  have H1 := Lib.hid (And.intro hb1w (And.intro ho1 ht1))
  have HWR := Lib.hid hwr
  clear hnew hs1 hb1 hb1w ho1 ht1 hr1 hwr
  go_wp2_with fail
  refine HWR.out.mono ?_
  rintro e w2 ⟨rfl, hs2, ht2⟩
  have hb2 : Below w.heap.size w w2 := H1.out.1.trans (ht2.below H1.out.1.size (by simp))
  have ho2 := arr_turn H1.out.2.1 ht2 (by simp)
  have htb2 := tab_turn H1.out.2.2 ht2 (fun g hg h => by have := H0.out.2.2.2.2.2.2.lt g hg; simp at h; omega)
  have hlz : zs.length = len := H0.out.2.2.2.2.1.1
  have hsm := psum_any w2 (w.heap.size + 1) zs hs2 H0.out.2.2.2.2.2.1 (by omega) htb2
  have H2 := Lib.hid (And.intro hb2 ho2)
  have HSM := Lib.hid hsm
  clear hs2 ht2 hb2 ho2 htb2 hlz hsm HWR H1
  go_wp2_with fail
  refine HSM.out.mono ?_
  rintro e w4 ⟨rfl, hb4⟩
  obtain ⟨D, hD⟩ : ∃ D, D = (sha zs).map (Value.int .u8) := ⟨_, rfl⟩
  have hdl : D.length = 32 := by rw [hD, List.length_map, sha_len]
  have infoD : (Tryd.prog.info? 46).map (·.size) = some D.length := by rw [hdl]; exact info32
  have honed : D.toArray.all (·.oneCell') = true := by rw [hD]; exact dv_one _
  have ho4 := H2.out.2.below hb4 (Array.getElem?_eq_some_iff.1 H2.out.2).1
  have hb4w : Below w.heap.size w w4 := H2.out.1.trans (hb4.mono H2.out.1.size)
  rw [show dv (sha zs) = .agg D.toArray by rw [hD]]
  have hth := there_of_arr (n := D.toArray.size) ho4 (by simp [hdl])
  have hend := World.rangeAt_setCells_same w4 w.heap.size 0 D (by simpa using hth)
  have hbl := below_setCells w.heap.size w.heap.size (Nat.le_refl _) D 0 w w4 hb4w
  have H4 := Lib.hid (And.intro hth (And.intro hend (And.intro hbl (And.intro infoD (And.intro honed hD)))))
  clear hb4 ho4 hb4w hth hend hbl hdl infoD honed hD HSM H2
  go_wp2_with (refine wpList_store_mid rfl 46 (.tmp 2) (.tmp 9) rfl w.heap.size 0 D.toArray rfl rfl H4.out.1 (by simpa using H4.out.2.2.2.1) H4.out.2.2.2.2.1 ?_)
  refine bodyPost_ret (v := .agg D.toArray) ?_ rfl ⟨by rw [H4.out.2.2.2.2.2], H4.out.2.2.1⟩
  rw [results_one rfl]
  show Result.andThen ((asAddr (.pointer (some ⟨w.heap.size, 0, none⟩))).run Tryd.prog _) _ = _
  simp only [asAddr, Sem.run_pure, Result.andThen_ok]
  exact run_loadVar_mid _ w.heap.size 0 46 D (.array 32 5) H4.out.2.1 (by kernel_rfl) rfl H4.out.2.2.2.1

/-- The states of the program. -/
def PSt (w : World) (p : Addr) (bs : List Nat) (zs : List Int) : Prop := ∃ sb, p = ⟨sb, 0, none⟩ ∧ bs = [sb] ∧ StV w sb zs
theorem st_ok : StOk PSt where
  new := fun w _ => (pnew_any w).mono fun e w' ⟨h1, h2, h3⟩ => ⟨_, _, h1, ⟨_, rfl, rfl, h2⟩, fun b hb => by rw [List.mem_singleton.1 hb]; exact Nat.le_refl _, h3⟩
  write := by
    rintro w p bs zs a len cap ys ⟨sb, rfl, rfl, hs⟩ hz hr hy hc hm hl ht hT hfar
    exact (pwrite_any w sb zs a len cap ys hs hy hr hc (by omega) ht hT hfar).mono fun e w' ⟨h1, h2, h3⟩ => ⟨h1, [sb], ⟨sb, rfl, rfl, h2⟩, fun b hb => .inl hb, h3⟩
  sum := by
    rintro w p bs zs ⟨sb, rfl, rfl, hs⟩ hz hl ht hT
    exact (psum_any w sb zs hs hz hl ht).mono fun e w' ⟨h1, h2⟩ => ⟨h1, [sb], ⟨sb, rfl, rfl, hs.turn (Turn.of_below h2) (by simp)⟩, fun b hb => .inl hb, (Turn.of_below h2).mono (fun k hk => by cases hk)⟩
  turn := by
    rintro w w' p bs cs zs ⟨sb, rfl, rfl, hs⟩ ht hn
    exact ⟨sb, rfl, rfl, hs.turn ht (hn sb (by simp))⟩
  lt := by
    rintro w p bs zs ⟨sb, rfl, rfl, hs⟩ b hb
    rw [List.mem_singleton.1 hb]
    exact hs.lt
theorem nil_ok : NilOk := ⟨fun w a len cap => pwrite_nil w a len cap, psum_nil⟩
end Go.Proofs.YtcmaclaiholpfaaDoor
