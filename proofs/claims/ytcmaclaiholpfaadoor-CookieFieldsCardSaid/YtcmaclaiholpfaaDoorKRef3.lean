/-
  The reference of layer 11: Write.
-/
import Derived.Test.YtcmaclaiholpfaaDoorKRef2
import Derived.Test.YtcmaclaiholpfaaDoorMacRef2
namespace Go.Proofs.YtcmaclaiholpfaaDoor
open Go.RowKit
set_option linter.unusedVariables false

set_option maxRecDepth 10000 in
set_option maxHeartbeats 1600000 in
theorem rwriteK_any (a : Option Addr) (len cap : Nat) (zs : List Int) (k : KV) (w : World) (hr : Reads w a len zs) (hz : Byt zs) (hl : len ≤ 1099511627776) (hk : k.ok) :
    Calls Tryd.prog 13 #[.slice a len cap, k.val] w fun e w' => ∃ a' c', e = .returned (.slice a' 64 c') ∧ Row8 w.heap.size w' a' 64 c' (writeK zs k) ∧ Below w.heap.size w w' := by
  obtain ⟨w0, hw0⟩ : ∃ w0, w0 = w.alloc (.cells k.cells.toArray 26) := ⟨_, rfl⟩
  have hb0 : Below w.heap.size w w0 := by rw [hw0]; exact (Below.refl _ _).alloc (Nat.le_refl _) _
  have hp := rbody_any k w0 hk
  have H0 := Lib.hid (And.intro hb0 (And.intro (hr.below hb0) (And.intro hz hw0)))
  rw [hw0] at hp
  unfold KV.cells KV.val at hp
  have HP := Lib.hid hp
  clear hb0 hw0 hp hr hz
  unfold KV.val
  go_enter Tryd.func13, Tryd.ntmps13
  go_wp2_with fail
  refine HP.out.mono ?_
  rintro e w1 ⟨a1, c1, rfl, hr1, hb1⟩
  have e0 := H0.out.2.2.2
  unfold KV.cells at e0
  rw [← e0] at hb1 hr1
  have hs := rsum_any a len cap zs a1 32 c1 (bodyK k) w1 (H0.out.2.1.below hb1) H0.out.2.2.1 hl hr1.reads (bodyK_byt k) (by omega)
  obtain ⟨D, hD⟩ : ∃ D, D = (hmac zs (bodyK k)).map (Value.int .u8) := ⟨_, rfl⟩
  have hdl : D.length = 32 := by rw [hD, List.length_map, hmac_len]
  have infoD : (Tryd.prog.info? 46).map (·.size) = some D.length := by rw [hdl]; exact infoA
  have honed : D.toArray.all (·.oneCell') = true := by rw [hD]; exact dv_one _
  unfold dv at hs
  rw [← hD] at hs
  have H1 := Lib.hid (And.intro (hr1.lower H0.out.1.size) (And.intro (H0.out.1.trans (hb1.mono H0.out.1.size)) (And.intro hD hdl)))
  have HS := Lib.hid hs
  clear hr1 hb1 e0 hD hdl hs HP
  go_wp2_with fail
  refine HS.out.mono ?_
  rintro e w2 ⟨rfl, hb2⟩
  obtain ⟨w3, hw3⟩ : ∃ w3, w3 = w2.alloc (.cells D.toArray 46) := ⟨_, rfl⟩
  have hb23 : Below w2.heap.size w2 w3 := by rw [hw3]; exact (Below.refl _ _).alloc (Nat.le_refl _) _
  have hd3 : Arr w3 w2.heap.size 46 ((hmac zs (bodyK k)).map (Value.int .u8)) := by rw [hw3, ← H1.out.2.2.1]; exact arr_new w2 46 D
  have hb13 : Below w1.heap.size w1 w3 := hb2.trans (hb23.mono hb2.size)
  have hr3 := H1.out.1.keep hb13
  have hb3 := H1.out.2.1.trans (hb13.mono H1.out.2.1.size)
  obtain ⟨a6, c6, w6, happ, H6⟩ := hr3.appends hb3.size (some ⟨w2.heap.size, 0, none⟩) 32 32 (hmac zs (bodyK k)) (hd3.reads' (hmac_len _ _)) (by omega)
  have H3 := Lib.hid (hb3.trans H6.out.2)
  have H7 := Lib.hid H6.out.1
  rw [hw3] at happ
  clear hb2 hb23 hd3 hb13 hr3 hb3 H6 HS
  go_wp2_with (first | (refine wpList_store_fresh rfl 46 (.tmp 6) (.tmp 11) rfl w2 _ rfl _ D.toArray rfl rfl (by simpa using infoD) (by simp [H1.out.2.2.2]) honed ?_) | (at_builtin; refine wpList_append_run rfl _ _ _ rfl _ _ _ _ rfl rfl happ ?_))
  go_ret
  exact ⟨a6, c6, rfl, H7.out, H3.out⟩
end Go.Proofs.YtcmaclaiholpfaaDoor
