/-
  The reference of layer 7: Sum.
-/
import Derived.Test.YtcmaclaiholpfaaDoorMacRef
import Derived.Test.YtcmaclaiholpfaaDoorMgA
import Derived.Test.YtcmaclaiholpfaaDoorMacSame
namespace Go.Proofs.YtcmaclaiholpfaaDoor
open Go.RowKit
set_option linter.unusedVariables false

theorem Arr.reads' {w : World} {g : Nat} {T : TypeId} {zs : List Int} (h : Arr w g T (zs.map (Value.int .u8))) {n : Nat} (hn : zs.length = n) : Reads w (some ⟨g, 0, none⟩) n zs := by
  subst hn
  refine ⟨rfl, .inr ⟨g, 0, rfl, (Array.getElem?_eq_some_iff.1 h).1, fun i hi => ?_⟩⟩
  rw [Nat.zero_add]
  exact h.cell (by simp [hi])
theorem there_arr {w : World} {g n : Nat} {T : TypeId} {cs : List Value} (h : Arr w g T cs) (hn : n = cs.length) : w.there g 0 n := by
  subst hn
  intro j hj
  rw [Nat.zero_add, h.cell (i := j) (v := cs[j]) (by simp [hj])]
  exact ⟨rfl, h.free j⟩

set_option maxRecDepth 100000 in
set_option maxHeartbeats 3200000 in
theorem rsum_any (a : Option Addr) (len cap : Nat) (zs : List Int) (b : Option Addr) (len2 cap2 : Nat) (ys : List Int) (w : World) (hr : Reads w a len zs) (hz : Byt zs) (hl : len ≤ 1099511627776)
    (hr2 : Reads w b len2 ys) (hy : Byt ys) (hl2 : len2 ≤ 549755813888) :
    Calls Tryd.prog 24 #[.slice a len cap, .slice b len2 cap2] w fun e w' => e = .returned (dv (hmac zs ys)) ∧ Below w.heap.size w w' := by
  obtain ⟨O, hO⟩ : ∃ O, O = List.replicate 32 (Value.int .u8 0) := ⟨_, rfl⟩
  obtain ⟨w0, hw0⟩ : ∃ w0, w0 = w.alloc (.cells O.toArray 46) := ⟨_, rfl⟩
  have hb0 : Below w.heap.size w w0 := by rw [hw0]; exact (Below.refl _ _).alloc (Nat.le_refl _) _
  have ho0 : Arr w0 w.heap.size 46 O := by rw [hw0]; exact arr_new w 46 O
  have hsz0 : w0.heap.size = w.heap.size + 1 := by rw [hw0]; simp
  obtain ⟨K, hK⟩ : ∃ K, K = blockK zs := ⟨_, rfl⟩
  have hkl : K.length = 64 := by rw [hK]; exact blockK_len _
  have hkb : Byt K := by rw [hK]; exact byt_blockK hz
  have hu := fun m W (hB : Below w0.heap.size w0 W) => runder_any a len cap zs m W ((hr.below hb0).below hB) hz hl
  rw [← hK] at hu
  have hm := hu 54 w0 (Below.refl _ _)
  have H0 := Lib.hid (And.intro hb0 (And.intro ho0 (And.intro hsz0 (And.intro (hr2.below hb0) hy))))
  have HK := Lib.hid (And.intro hK (And.intro hkl hkb))
  rw [hw0, hO] at hm
  have HW := Lib.hid (And.intro hw0 hO)
  have HM := Lib.hid hm
  have HU := Lib.hid hu
  clear hb0 ho0 hsz0 hK hkl hkb hw0 hO hm hr hz hr2 hy hu
  go_enter Tryd.func24, Tryd.ntmps24
  go_wp2_with fail
  refine HM.out.mono ?_
  rintro e w1 ⟨a1, c1, rfl, hr1, hb1⟩
  rw [← HW.out.2, ← HW.out.1] at hr1 hb1
  obtain ⟨S1, hS1⟩ : ∃ S1, S1 = sha (turned 54 K ++ ys) := ⟨_, rfl⟩
  obtain ⟨D, hD⟩ : ∃ D, D = S1.map (Value.int .u8) := ⟨_, rfl⟩
  have hdl : D.length = 32 := by rw [hD, hS1, List.length_map, sha_len]
  have infoD : (Tryd.prog.info? 46).map (·.size) = some D.length := by rw [hdl]; exact infoA
  have honed : D.toArray.all (·.oneCell') = true := by rw [hD]; exact dv_one _
  obtain ⟨a2, c2, w2, happ, H2⟩ := hr1.appends hb1.size b len2 cap2 ys (H0.out.2.2.2.1.below hb1) (by omega)
  have hb2 := hb1.trans H2.out.2
  have hs := sum_any a2 (64 + len2) c2 (turned 54 K ++ ys) w2 H2.out.1.reads ((byt_turned (by omega) (by omega) HK.out.2.2).append H0.out.2.2.2.2) (by omega)
  rw [← hS1, ← hD] at hs
  have HB2 := Lib.hid hb2
  have HS := Lib.hid hs
  have HD := Lib.hid (And.intro hS1 (And.intro hD hdl))
  clear hr1 hb1 hb2 hs hS1 hD hdl HM
  go_wp2_with (at_builtin; refine wpList_append_run rfl _ _ _ rfl _ _ _ _ rfl rfl happ ?_)
  clear happ
  refine HS.out.mono ?_
  rintro e w3 ⟨rfl, hb3⟩
  obtain ⟨w4, hw4⟩ : ∃ w4, w4 = w3.alloc (.cells D.toArray 46) := ⟨_, rfl⟩
  have hb34 : Below w3.heap.size w3 w4 := by rw [hw4]; exact (Below.refl _ _).alloc (Nat.le_refl _) _
  have hb40 : Below w0.heap.size w0 w4 := HB2.out.trans ((hb3.trans (hb34.mono hb3.size)).mono HB2.out.size)
  have hd4 : Arr w4 w3.heap.size 46 (S1.map (Value.int .u8)) := by rw [hw4, ← HD.out.2.1]; exact arr_new w3 46 D
  have hu := HU.out 92 w4 hb40
  rw [hw4] at hu
  have H4 := Lib.hid (And.intro hb40 (And.intro hd4 hw4))
  have HU2 := Lib.hid hu
  clear hb3 hb34 hb40 hd4 hw4 hu HS HU
  go_wp2_with (refine wpList_store_fresh rfl 46 (.tmp 6) (.tmp 14) rfl w3 _ rfl _ D.toArray rfl rfl (by simpa using infoD) (by simp [HD.out.2.2]) honed ?_)
  refine HU2.out.mono ?_
  rintro e w5 ⟨a5, c5, rfl, hr5, hb5⟩
  rw [← H4.out.2.2] at hr5 hb5
  have hd5 := H4.out.2.1.below hb5 (Array.getElem?_eq_some_iff.1 H4.out.2.1).1
  have hsl : S1.length = 32 := by rw [HD.out.1]; exact sha_len _
  obtain ⟨a6, c6, w6, happ, H6⟩ := hr5.appends hb5.size (some ⟨w3.heap.size, 0, none⟩) 32 32 S1 (hd5.reads' hsl) (by omega)
  rw [show 64 + 32 = 96 from rfl] at happ H6
  have hb6 : Below w0.heap.size w0 w6 := H4.out.1.trans ((hb5.trans H6.out.2).mono H4.out.1.size)
  have hs := sum_any a6 96 c6 (turned 92 K ++ S1) w6 H6.out.1.reads ((byt_turned (by omega) (by omega) HK.out.2.2).append (by rw [HD.out.1]; exact sha_byt _)) (by omega)
  rw [show sha (turned 92 K ++ S1) = hmac zs ys by unfold hmac; rw [HD.out.1, HK.out.1]] at hs
  obtain ⟨R, hR⟩ : ∃ R, R = (hmac zs ys).map (Value.int .u8) := ⟨_, rfl⟩
  have hrl : R.length = 32 := by rw [hR, List.length_map, hmac_len]
  have infoR : (Tryd.prog.info? 46).map (·.size) = some R.length := by rw [hrl]; exact infoA
  have honer : R.toArray.all (·.oneCell') = true := by rw [hR]; exact dv_one _
  rw [← hR] at hs
  have HB6 := Lib.hid hb6
  have HS := Lib.hid hs
  have HR := Lib.hid (And.intro hR hrl)
  clear hr5 hb5 hd5 hsl hb6 hs hR hrl HU2 H6
  go_wp2_with (at_builtin; refine wpList_append_run rfl _ _ _ rfl _ _ _ _ rfl rfl happ ?_)
  clear happ
  refine HS.out.mono ?_
  rintro e w7 ⟨rfl, hb7⟩
  have hb70 : Below w0.heap.size w0 w7 := HB6.out.trans (hb7.mono HB6.out.size)
  have ho7 := H0.out.2.1.below hb70 (by rw [H0.out.2.2.1]; omega)
  have hth := there_arr (n := R.toArray.size) ho7 (by rw [HW.out.2]; simp [HR.out.2])
  have hend := World.rangeAt_setCells_same w7 w.heap.size 0 R (by simpa using hth)
  have hbl := below_setCells w.heap.size w.heap.size (Nat.le_refl _) R 0 w w7 (H0.out.1.trans (hb70.mono H0.out.1.size))
  have HE := Lib.hid (And.intro hth (And.intro hend hbl))
  clear hb7 hb70 ho7 hth hend hbl HS
  go_wp2_with (refine wpList_store_mid rfl 46 (.tmp 4) (.tmp 21) rfl w.heap.size 0 R.toArray rfl rfl HE.out.1 (by simpa using infoR) honer ?_)
  refine bodyPost_ret (v := .agg R.toArray) ?_ rfl ⟨by rw [HR.out.1], HE.out.2.2⟩
  rw [results_one rfl]
  show Result.andThen ((asAddr (.pointer (some ⟨w.heap.size, 0, none⟩))).run Tryd.prog _) _ = _
  simp only [asAddr, Sem.run_pure, Result.andThen_ok]
  exact run_loadVar_mid _ w.heap.size 0 46 R (.array 32 5) HE.out.2.1 (by kernel_rfl) rfl infoR
end Go.Proofs.YtcmaclaiholpfaaDoor
