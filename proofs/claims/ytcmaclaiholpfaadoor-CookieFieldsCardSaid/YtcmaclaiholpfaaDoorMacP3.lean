/-
  The program's mac: the maker of masks, the digest of a block and bytes.
-/
import Derived.Test.YtcmaclaiholpfaaDoorMacP2
import Derived.Deep.Upon
namespace Go.Proofs.YtcmaclaiholpfaaDoor
open Go.RowKit
set_option linter.unusedVariables false

theorem Arr.reads {w : World} {g : Nat} {T : TypeId} {zs : List Int} (h : Arr w g T (zs.map (Value.int .u8))) {n : Nat} (hn : zs.length = n) : Reads w (some ⟨g, 0, none⟩) n zs := by
  subst hn
  refine ⟨rfl, .inr ⟨g, 0, rfl, h.lt, fun i hi => ?_⟩⟩
  rw [Nat.zero_add]
  exact h.cell (by simp [hi])
theorem Arr.other {w : World} {g : Nat} {T : TypeId} {cs : List Value} (h : Arr w g T cs) (b o : Nat) (vs : List Value) (hn : g ≠ b) : Arr (w.setCells b o vs) g T cs := (World.heap_setCells_other w b o vs h.lt hn).trans h

set_option maxRecDepth 100000 in
set_option maxHeartbeats 1600000 in
theorem mmasker_any (a : Option Addr) (len cap : Nat) (zs : List Int) (w : World) (hr : Reads w a len zs) (hz : Byt zs) (hl : len ≤ 1099511627776) (hc : len ≤ cap) (ht : Tab w) :
    Calls Tryd.prog 33 #[.slice a len cap] w fun e w' => ∃ g, e = .returned (.func (.func 41) #[] #[.pointer (some ⟨g, 0, none⟩)]) ∧ w.heap.size ≤ g ∧ Arr w' g 58 ((blockK zs).map (Value.int .u8)) ∧ Below w.heap.size w w' := by
  have hmf : ∀ (fn : Fn) (first cap : Array Value) (w : World), (Instr.makeFunc fn first cap).run Tryd.prog w = .ok (.func fn first cap) w := fun _ _ _ _ => rfl
  obtain ⟨X, hX⟩ : ∃ X, X = (blockK zs).map (Value.int .u8) := ⟨_, rfl⟩
  have hxl : X.length = 64 := by rw [hX, List.length_map, blockK_len]
  have infoX : (Tryd.prog.info? 58).map (·.size) = some X.length := by rw [hxl]; exact infoB64
  have honeX : X.toArray.all (·.oneCell') = true := by rw [hX]; exact dv_one _
  have hb := mblock_any a len cap zs w hr hz hl hc ht
  rw [show dv (blockK zs) = .agg X.toArray by rw [hX]] at hb
  have HB := Lib.hid hb
  have HX := Lib.hid (And.intro hX hxl)
  clear hb hX hxl hr hz ht
  go_enter Tryd.func33, Tryd.ntmps33
  go_wp2_with fail
  refine HB.out.mono ?_
  rintro e w1 ⟨rfl, hb1⟩
  have hx1 : Arr (w1.alloc (.cells X.toArray 58)) w1.heap.size 58 X := arr_new w1 58 X
  have HE := Lib.hid (And.intro hx1 (And.intro (hb1.alloc hb1.size (.cells X.toArray 58)) hb1.size))
  clear hx1 hb1
  go_wp2_with (refine wpList_store_fresh rfl 58 (.tmp 3) (.tmp 5) rfl w1 _ rfl _ X.toArray rfl rfl (by simpa using infoX) (by simp [HX.out.2]) honeX ?_)
  go_ret
  exact ⟨_, rfl, HE.out.2.2, by rw [← HX.out.1]; exact HE.out.1, HE.out.2.1⟩

set_option maxRecDepth 100000 in
set_option maxHeartbeats 1600000 in
theorem mdigest_any (Z : List Int) (hzl : Z.length = 64) (hzb : Byt Z) (a : Option Addr) (len cap : Nat) (ys : List Int) (w : World) (hr : Reads w a len ys) (hy : Byt ys) (hl : len ≤ 549755813888) (hc : len ≤ cap) (ht : Tab w) :
    Calls Tryd.prog 34 #[dv Z, .slice a len cap] w fun e w' => e = .returned (dv (sha (Z ++ ys))) ∧ Below w.heap.size w w' := by
  obtain ⟨Y, hY⟩ : ∃ Y, Y = Z.map (Value.int .u8) := ⟨_, rfl⟩
  obtain ⟨O, hO⟩ : ∃ O, O = List.replicate 32 (Value.int .u8 0) := ⟨_, rfl⟩
  obtain ⟨w0, hw0⟩ : ∃ w0, w0 = (w.alloc (.cells Y.toArray 58)).alloc (.cells O.toArray 46) := ⟨_, rfl⟩
  have hb0 : Below w.heap.size w w0 := by rw [hw0]; exact ((Below.refl _ _).alloc (Nat.le_refl _) _).alloc (by simp) _
  have hy0 : Arr w0 w.heap.size 58 Y := by
    rw [hw0]
    exact (arr_new w 58 Y).below ((Below.refl (w.heap.size + 1) _).alloc (by simp) _) (by omega)
  have ho0 : Arr w0 (w.heap.size + 1) 46 O := by
    rw [hw0]
    have := arr_new (w.alloc (.cells Y.toArray 58)) 46 O
    simpa using this
  have hsz0 : w0.heap.size = w.heap.size + 2 := by rw [hw0]; simp
  have H0 := Lib.hid (And.intro hb0 (And.intro hy0 (And.intro ho0 (And.intro hsz0 (And.intro (ht.below hb0 ht.lt) (And.intro (hr.below hb0) (And.intro hy (And.intro ht (And.intro hzl hzb)))))))))
  have HW := Lib.hid (And.intro hw0 (And.intro hO hY))
  rw [show dv Z = .agg Y.toArray by rw [hY]]
  have hrb := hr
  clear hb0 hy0 ho0 hsz0 hw0 hO hY ht hr hy hzl hzb hrb
  go_enter Tryd.func34, Tryd.ntmps34
  go_wp2_with fail
  have hnew := pnew_any w0
  rw [HW.out.1, HW.out.2.1] at hnew
  refine hnew.mono ?_
  rintro e w1 ⟨rfl, hs1, hb1⟩
  rw [← HW.out.2.1, ← HW.out.1, H0.out.2.2.2.1] at hs1 hb1
  rw [show ((w.alloc (.cells Y.toArray 58)).alloc (.cells (List.replicate 32 (Value.int .u8 0)).toArray 46)).heap.size = w.heap.size + 2 by simp]
  have hb1' : Below w0.heap.size w0 w1 := by rw [H0.out.2.2.2.1]; exact hb1
  have hb1w : Below w.heap.size w w1 := H0.out.1.trans (hb1.mono (by omega))
  have hy1 := H0.out.2.1.below hb1 (by omega)
  have ho1 := H0.out.2.2.1.below hb1 (by omega)
  have ht1 : Tab w1 := H0.out.2.2.2.2.1.below hb1 (fun g hg => by have := H0.out.2.2.2.2.2.2.2.1.lt g hg; omega)
  have hr1 : Reads w1 a len ys := H0.out.2.2.2.2.2.1.below hb1'
  have hy1' : Arr w1 w.heap.size 58 (Z.map (Value.int .u8)) := by rw [← HW.out.2.2]; exact hy1
  have hwr := pwrite_any w1 (w.heap.size + 2) [] (some ⟨w.heap.size, 0, none⟩) 64 64 Z hs1 H0.out.2.2.2.2.2.2.2.2.2 (hy1'.reads H0.out.2.2.2.2.2.2.2.2.1) (by omega) (by simp) ht1
    (fun g hg h => by have := H0.out.2.2.2.2.2.2.2.1.lt g hg; simp at h; omega) (fun h0 q hq h => by cases hq; simp at h)
  have H1 := Lib.hid (And.intro hb1w (And.intro ho1 (And.intro ht1 hr1)))
  have HWR := Lib.hid hwr
  clear hnew hs1 hb1 hb1' hb1w hy1 hy1' ho1 ht1 hr1 hwr
  go_wp2_with fail
  refine HWR.out.mono ?_
  rintro e w2 ⟨rfl, hs2, ht2⟩
  rw [List.nil_append] at hs2
  have hb2w : Below w.heap.size w w2 := H1.out.1.trans (ht2.below H1.out.1.size (by simp))
  have ho2 := arr_turn H1.out.2.1 ht2 (by simp)
  have htb2 := tab_turn H1.out.2.2.1 ht2 (fun g hg h => by have := H0.out.2.2.2.2.2.2.2.1.lt g hg; simp at h; omega)
  have hr2 : Reads w2 a len ys := reads_turn H1.out.2.2.2 ht2 (fun h0 q hq h => by
    rcases H0.out.2.2.2.2.2.1.2 with h1 | ⟨b, off, hb, hlt, _⟩
    · omega
    · rw [hb] at hq; cases hq; rw [H0.out.2.2.2.1] at hlt; simp at h; omega)
  have hwr := pwrite_any w2 (w.heap.size + 2) Z a len cap ys hs2 H0.out.2.2.2.2.2.2.1 hr2 hc (by rw [H0.out.2.2.2.2.2.2.2.2.1]; omega) htb2
    (fun g hg h => by have := H0.out.2.2.2.2.2.2.2.1.lt g hg; simp at h; omega)
    (fun h0 q hq h => by
      rcases H0.out.2.2.2.2.2.1.2 with h1 | ⟨b, off, hb, hlt, _⟩
      · omega
      · rw [hb] at hq; cases hq; rw [H0.out.2.2.2.1] at hlt; simp at h; omega)
  have H2 := Lib.hid (And.intro hb2w (And.intro ho2 htb2))
  have HWR2 := Lib.hid hwr
  clear hs2 ht2 hb2w ho2 htb2 hr2 hwr HWR H1
  go_wp2_with fail
  refine HWR2.out.mono ?_
  rintro e w3 ⟨rfl, hs3, ht3⟩
  have hb3w : Below w.heap.size w w3 := H2.out.1.trans (ht3.below H2.out.1.size (by simp))
  have ho3 := arr_turn H2.out.2.1 ht3 (by simp)
  have htb3 := tab_turn H2.out.2.2 ht3 (fun g hg h => by have := H0.out.2.2.2.2.2.2.2.1.lt g hg; simp at h; omega)
  have hlz : (Z ++ ys).length = 64 + len := by rw [List.length_append, H0.out.2.2.2.2.2.2.2.2.1, H0.out.2.2.2.2.2.1.1]
  have hsm := psum_any w3 (w.heap.size + 2) (Z ++ ys) hs3 (H0.out.2.2.2.2.2.2.2.2.2.append H0.out.2.2.2.2.2.2.1) (by omega) htb3
  have H3 := Lib.hid (And.intro hb3w (And.intro ho3 H0.out.2.2.1.lt))
  have HSM := Lib.hid hsm
  clear hs3 ht3 hb3w ho3 htb3 hlz hsm HWR2 H2
  go_wp2_with fail
  refine HSM.out.mono ?_
  rintro e w4 ⟨rfl, hb4⟩
  obtain ⟨D, hD⟩ : ∃ D, D = (sha (Z ++ ys)).map (Value.int .u8) := ⟨_, rfl⟩
  have hdl : D.length = 32 := by rw [hD, List.length_map, sha_len]
  have infoD : (Tryd.prog.info? 46).map (·.size) = some D.length := by rw [hdl]; exact info32
  have honed : D.toArray.all (·.oneCell') = true := by rw [hD]; exact dv_one _
  have ho4 := H3.out.2.1.below hb4 H3.out.2.1.lt
  have hb4w : Below w.heap.size w w4 := H3.out.1.trans (hb4.mono H3.out.1.size)
  rw [show dv (sha (Z ++ ys)) = .agg D.toArray by rw [hD]]
  have hth := there_of_arr (n := D.toArray.size) ho4 (by rw [HW.out.2.1]; simp [hdl])
  have hend := World.rangeAt_setCells_same w4 (w.heap.size + 1) 0 D (by simpa using hth)
  have hbl := below_setCells w.heap.size (w.heap.size + 1) (by omega) D 0 w w4 hb4w
  have H4 := Lib.hid (And.intro hth (And.intro hend (And.intro hbl (And.intro infoD (And.intro honed hD)))))
  clear hb4 ho4 hb4w hth hend hbl hdl infoD honed hD HSM H3
  go_wp2_with (refine wpList_store_mid rfl 46 (.tmp 4) (.tmp 14) rfl (w.heap.size + 1) 0 D.toArray rfl rfl H4.out.1 (by simpa using H4.out.2.2.2.1) H4.out.2.2.2.2.1 ?_)
  refine bodyPost_ret (v := .agg D.toArray) ?_ rfl ⟨by rw [H4.out.2.2.2.2.2], H4.out.2.2.1⟩
  rw [results_one rfl]
  show Result.andThen ((asAddr (.pointer (some ⟨w.heap.size + 1, 0, none⟩))).run Tryd.prog _) _ = _
  simp only [asAddr, Sem.run_pure, Result.andThen_ok]
  exact run_loadVar_mid _ (w.heap.size + 1) 0 46 D (.array 32 5) H4.out.2.1 (by kernel_rfl) rfl H4.out.2.2.2.1
end Go.Proofs.YtcmaclaiholpfaaDoor
