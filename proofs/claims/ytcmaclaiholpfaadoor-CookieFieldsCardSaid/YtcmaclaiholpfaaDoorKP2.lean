/-
  The program's cookie: Write.
-/
import Derived.Test.YtcmaclaiholpfaaDoorKP1
import Derived.Test.YtcmaclaiholpfaaDoorKApi
import Derived.Test.YtcmaclaiholpfaaDoorMacP4
namespace Go.Proofs.YtcmaclaiholpfaaDoor
open Go.RowKit
set_option linter.unusedVariables false

set_option maxRecDepth 10000 in
set_option maxHeartbeats 1600000 in
theorem pfive_any (k : KV) (a : Option Addr) (c g : Nat) (w : World) (hk : k.ok) (hr : Reads w a 8 (headK k 0)) (hA : Arr w g 23 (k.five.map (Value.int .u32))) :
    Calls Tryd.prog 21 #[.slice a 8 c, .slice (some ⟨g, 0, none⟩) 5 5] w fun e w' => ∃ a' c', e = .returned (.slice a' 28 c') ∧ Reads w' a' 28 (headK k 5) ∧ Below w.heap.size w w' := by
  have HK := Lib.hid hk
  have H0 := Lib.hid (And.intro hr hA)
  clear hk hr hA
  go_enter Tryd.func21, Tryd.ntmps21
  go_wp2
  go_loopw [0, 9] (fun t i wr => ∃ (j : Nat) (a' : Option Addr) (c' : Nat), j ≤ 5 ∧ t = .slice a' (8 + 4 * j) c' ∧ i = .int .i64 (j : Int) ∧ Reads wr a' (8 + 4 * j) (headK k j) ∧ Arr wr g 23 (k.five.map (Value.int .u32)) ∧ Below w.heap.size w wr) (fun _ i _ => 5 - (intOf i).toNat)
  case atStart => exact ⟨0, a, c, by omega, rfl, rfl, H0.out.1, H0.out.2, Below.refl _ _⟩
  case round =>
    obtain ⟨j, a', c', hj, rfl, rfl, hrow, haf, hb⟩ := hrel
    by_cases hlt : j < 5
    · obtain ⟨x, hx, hxk⟩ := k.at5 hlt
      have hxx := hxk HK.out
      have dx := haf.cell (i := j) (v := .int .u32 x) (by simp [hx])
      have hp := putP_yes a' (8 + 4 * j) c' 4 x (headK k j) wr hrow (by omega) hxx.1 (by omega) rfl
      have hg : (j : Int) < 5 := by omega
      have HR := Lib.hid (And.intro haf (And.intro hb hx))
      have HP := Lib.hid hp
      clear hrow haf hb hp hx hxk
      go_wp2_with fail
      refine HP.out.mono ?_
      rintro e w2 ⟨a2, c2, rfl, hb2, hr2⟩
      have hbb := HR.out.2.1
      rw [← headK_succ k HR.out.2.2] at hr2
      have H2 := Lib.hid (And.intro hr2.reads (And.intro (HR.out.1.keep hb2) (hbb.trans (hb2.mono hbb.size))))
      clear hbb hb2 hr2
      go_wp2
      go_roundw
      case rel => exact ⟨j + 1, a2, c2, by omega, by rw [show 8 + 4 * (j + 1) = 8 + 4 * j + 4 by omega], by go_num, by rw [show 8 + 4 * (j + 1) = 8 + 4 * j + 4 by omega]; exact H2.out.1, H2.out.2.1, H2.out.2.2⟩
      case measure => simp [intOf]; omega
    · obtain rfl : j = 5 := by omega
      have HR := Lib.hid (And.intro hrow hb)
      clear hrow haf hb
      go_wp2
      go_ret
      exact ⟨a', c', rfl, HR.out.1, HR.out.2⟩

set_option maxRecDepth 10000 in
set_option maxHeartbeats 1600000 in
theorem kwrite_ok : KWriteOk := by
  intro a len cap zs k w hr hz hl hc hk ht
  obtain ⟨w0, hw0⟩ : ∃ w0, w0 = w.alloc (.cells k.cells.toArray 26) := ⟨_, rfl⟩
  have hb0 : Below w.heap.size w w0 := by rw [hw0]; exact (Below.refl _ _).alloc (Nat.le_refl _) _
  have ha0 : Arr w0 w.heap.size 26 k.cells := by rw [hw0]; exact arr_new _ _ _
  have y := u64K_in k.born
  have hp := putP_yes none 0 0 8 (IntKind.u64.wrap k.born) [] w0 (Reads.zero _ _) (by omega) y.1 y.2 rfl
  have H0 := Lib.hid (And.intro hb0 (And.intro ha0 hw0))
  rw [hw0] at hp
  unfold KV.cells at hp
  have HP := Lib.hid hp
  have HK := Lib.hid hk
  have HT := Lib.hid ht
  have HZ := Lib.hid (And.intro hr (And.intro hz hc))
  clear hb0 ha0 hw0 hp y hk ht hr hz hc
  unfold KV.val
  go_enter Tryd.func12, Tryd.ntmps12
  go_wp2_with fail
  refine HP.out.mono ?_
  rintro e w1 ⟨a1, c1, rfl, hb1, hr1⟩
  have e0 := H0.out.2.2
  unfold KV.cells at e0
  rw [← e0] at hb1 hr1
  have ha1 := H0.out.2.1.keep hb1
  have d1 := ha1.cell (i := 1) rfl
  have d2 := ha1.cell (i := 2) rfl
  have d3 := ha1.cell (i := 3) rfl
  have d4 := ha1.cell (i := 4) rfl
  have d5 := ha1.cell (i := 5) rfl
  obtain ⟨w1', hw1'⟩ : ∃ w1', w1' = w1.alloc (.cells #[.int .u32 k.own, .int .u32 k.peer, .int .u32 k.otsn, .int .u32 k.ptsn, .int .u32 k.rwnd] 23) := ⟨_, rfl⟩
  have hbA : Below w1.heap.size w1 w1' := by rw [hw1']; exact (Below.refl _ _).alloc (Nat.le_refl _) _
  have hA1 : Arr w1' w1.heap.size 23 (k.five.map (Value.int .u32)) := by rw [hw1']; exact arr_new _ _ _
  have e8 : [] ++ enc (IntKind.u64.wrap k.born) 8 = headK k 0 := by unfold headK u64K; simp [IntKind.wrap_u64]
  rw [e8] at hr1
  have hp := pfive_any k a1 c1 w1.heap.size w1' HK.out (hr1.reads.below hbA) hA1
  have hbb := hb1.trans (hbA.mono hb1.size)
  have H1 := Lib.hid (And.intro (H0.out.1.trans (hbb.mono H0.out.1.size)) (And.intro (ha1.keep hbA) hw1'))
  rw [hw1'] at hp
  have HP := Lib.hid hp
  clear e0 hb1 hr1 ha1 hbA hA1 e8 hp hbb hw1'
  go_wp2_with fail
  refine HP.out.mono ?_
  rintro e w2 ⟨a2, c2, rfl, hr2, hb2⟩
  rw [← H1.out.2.2] at hb2
  have ha2 := H1.out.2.1.keep hb2
  have hbb := H1.out.1.trans (hb2.mono H1.out.1.size)
  have d6 := ha2.cell (i := 6) rfl
  have o6 := HK.out.out
  have o7 := HK.out.inn
  have hp := putP_yes a2 28 c2 2 k.out (headK k 5) w2 hr2 (by omega) HK.out.out.1 (by omega) rfl
  have H2 := Lib.hid (And.intro hbb ha2)
  have HP := Lib.hid hp
  clear ha2 hbb hp hb2 hr2
  go_wp2_with fail
  refine HP.out.mono ?_
  rintro e w3 ⟨a3, c3, rfl, hb3, hr3⟩
  have ha3 := H2.out.2.keep hb3
  have hbb := H2.out.1.trans (hb3.mono H2.out.1.size)
  have d7 := ha3.cell (i := 7) rfl
  have hp := putP_yes a3 30 c3 2 k.inn (headK k 5 ++ enc k.out 2) w3 hr3.reads (by omega) HK.out.inn.1 (by omega) rfl
  have H3 := Lib.hid hbb
  have HP := Lib.hid hp
  clear ha3 hbb hp hb3 hr3
  go_wp2_with fail
  refine HP.out.mono ?_
  rintro e w4 ⟨a4, c4, rfl, hb4, hr4⟩
  have hbb := H3.out.trans (hb4.mono H3.out.size)
  have hr4' : Row8 w.heap.size w4 a4 32 c4 (bodyK k) := hr4.lower H3.out.size
  have hs := msum_any a len cap zs a4 32 c4 (bodyK k) w4 (HZ.out.1.below hbb) HZ.out.2.1 (by omega) HZ.out.2.2 hr4'.reads (bodyK_byt k) (by omega) hr4'.le (HT.out.below hbb HT.out.lt)
  obtain ⟨D, hD⟩ : ∃ D, D = (hmac zs (bodyK k)).map (Value.int .u8) := ⟨_, rfl⟩
  have hdl : D.length = 32 := by rw [hD, List.length_map, hmac_len]
  have infoD : (Tryd.prog.info? 46).map (·.size) = some D.length := by rw [hdl]; exact infoA
  have honed : D.toArray.all (·.oneCell') = true := by rw [hD]; exact dv_one _
  unfold dv at hs
  rw [← hD] at hs
  have H4 := Lib.hid (And.intro hr4' (And.intro hbb (And.intro hD hdl)))
  have HS := Lib.hid hs
  clear hb4 hr4 hr4' hbb hD hdl hs HP
  go_wp2_with fail
  refine HS.out.mono ?_
  rintro e w5 ⟨rfl, hb5⟩
  obtain ⟨w6, hw6⟩ : ∃ w6, w6 = w5.alloc (.cells D.toArray 46) := ⟨_, rfl⟩
  have hb56 : Below w5.heap.size w5 w6 := by rw [hw6]; exact (Below.refl _ _).alloc (Nat.le_refl _) _
  have hd6 : Arr w6 w5.heap.size 46 ((hmac zs (bodyK k)).map (Value.int .u8)) := by rw [hw6, ← H4.out.2.2.1]; exact arr_new w5 46 D
  have hb46 : Below w4.heap.size w4 w6 := hb5.trans (hb56.mono hb5.size)
  have hr6 := H4.out.1.keep hb46
  have hb6 := H4.out.2.1.trans (hb46.mono H4.out.2.1.size)
  obtain ⟨a7, c7, w7, happ, H7⟩ := hr6.appends hb6.size (some ⟨w5.heap.size, 0, none⟩) 32 32 (hmac zs (bodyK k)) (hd6.reads' (hmac_len _ _)) (by omega)
  have H6 := Lib.hid (hb6.trans H7.out.2)
  have H8 := Lib.hid H7.out.1
  rw [hw6] at happ
  clear hb5 hb56 hd6 hb46 hr6 hb6 H7 HS
  go_wp2_with (first | (refine wpList_store_fresh rfl 46 (.tmp 6) (.tmp 36) rfl w5 _ rfl _ D.toArray rfl rfl (by simpa using infoD) (by simp [H4.out.2.2.2]) honed ?_) | (at_builtin; refine wpList_append_run rfl _ _ _ rfl _ _ _ _ rfl rfl happ ?_))
  go_ret
  exact ⟨a7, c7, rfl, H8.out.reads, H8.out.le, H8.out.max, H6.out⟩
end Go.Proofs.YtcmaclaiholpfaaDoor
