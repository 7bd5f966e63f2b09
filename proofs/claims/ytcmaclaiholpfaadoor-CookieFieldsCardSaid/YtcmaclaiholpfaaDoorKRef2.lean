/-
  The reference of layer 11: a cookie's first 32 bytes.
-/
import Derived.Test.YtcmaclaiholpfaaDoorKRef1
import Derived.Test.YtcmaclaiholpfaaDoorMgA
namespace Go.Proofs.YtcmaclaiholpfaaDoor
open Go.RowKit
set_option linter.unusedVariables false

theorem KV.at5 (k : KV) {j : Nat} (h : j < 5) : ∃ x, k.five[j]? = some x ∧ (k.ok → 0 ≤ x ∧ x < 4294967296) := by
  match j, h with
  | 0, _ => exact ⟨_, rfl, fun h => h.own⟩
  | 1, _ => exact ⟨_, rfl, fun h => h.peer⟩
  | 2, _ => exact ⟨_, rfl, fun h => h.otsn⟩
  | 3, _ => exact ⟨_, rfl, fun h => h.ptsn⟩
  | 4, _ => exact ⟨_, rfl, fun h => h.rwnd⟩

set_option maxRecDepth 10000 in
set_option maxHeartbeats 1600000 in
theorem rbody_any (k : KV) (w : World) (hk : k.ok) :
    Calls Tryd.prog 23 #[k.val] w fun e w' => ∃ a' c', e = .returned (.slice a' 32 c') ∧ Row8 w.heap.size w' a' 32 c' (bodyK k) ∧ Below w.heap.size w w' := by
  obtain ⟨w0, hw0⟩ : ∃ w0, w0 = w.alloc (.cells k.cells.toArray 26) := ⟨_, rfl⟩
  have hb0 : Below w.heap.size w w0 := by rw [hw0]; exact (Below.refl _ _).alloc (Nat.le_refl _) _
  have ha0 : Arr w0 w.heap.size 26 k.cells := by rw [hw0]; exact arr_new _ _ _
  have y := u64K_in k.born
  have hp := putR_yes none 0 0 8 (IntKind.u64.wrap k.born) [] w0 (Reads.zero _ _) (by omega) y.1 rfl
  have H0 := Lib.hid (And.intro hb0 (And.intro ha0 hw0))
  rw [hw0] at hp
  unfold KV.cells at hp
  have HP := Lib.hid hp
  have HK := Lib.hid hk
  clear hb0 ha0 hw0 hp y hk
  unfold KV.val
  go_enter Tryd.func23, Tryd.ntmps23
  go_wp2_with fail
  refine HP.out.mono ?_
  rintro e w1 ⟨a1, c1, rfl, hb1, hr1⟩
  have e0 := H0.out.2.2
  unfold KV.cells at e0
  rw [← e0] at hb1 hr1
  have ha1 := H0.out.2.1.keep hb1
  have d1 := ha1.cell (i := 1) rfl
  have d2 := ha1.cell (i := 2) rfl
  have d3 := ha1.cell (i := 3) rfl
  have d4 := ha1.cell (i := 4) rfl
  have d5 := ha1.cell (i := 5) rfl
  have H1 := Lib.hid (And.intro (hr1.lower H0.out.1.size) (And.intro (H0.out.1.trans (hb1.mono H0.out.1.size)) ha1))
  clear hb1 hr1 ha1 e0
  go_wp2
  go_loopw [3, 5] (fun t i wr => ∃ (j : Nat) (a' : Option Addr) (c' : Nat), j ≤ 5 ∧ t = .slice a' (8 + 4 * j) c' ∧ i = .int .i64 (j : Int) ∧ Row8 w.heap.size wr a' (8 + 4 * j) c' (headK k j) ∧ Arr wr w.heap.size 26 k.cells ∧ Arr wr w1.heap.size 23 (k.five.map (Value.int .u32)) ∧ Below w.heap.size w wr ∧ w1.heap.size < wr.heap.size) (fun _ i _ => 5 - (intOf i).toNat)
  case atStart =>
    refine ⟨0, a1, c1, by omega, rfl, rfl, ?_, ?_, ?_, ?_, ?_⟩
    · have h := H1.out.1.keep ((Below.refl _ _).alloc (Nat.le_refl _) (.cells #[.int .u32 k.own, .int .u32 k.peer, .int .u32 k.otsn, .int .u32 k.ptsn, .int .u32 k.rwnd] 23))
      have e : headK k 0 = [] ++ enc (IntKind.u64.wrap k.born) 8 := by unfold headK u64K; simp [IntKind.wrap_u64]
      rw [e]
      exact h
    · exact H1.out.2.2.keep ((Below.refl _ _).alloc (Nat.le_refl _) _)
    · exact arr_new _ _ _
    · exact H1.out.2.1.alloc H1.out.2.1.size _
    · simp
  case round =>
    obtain ⟨j, a', c', hj, rfl, rfl, hrow, hak, haf, hb, hsz⟩ := hrel
    by_cases hlt : j < 5
    · obtain ⟨x, hx, hxk⟩ := k.at5 hlt
      have hxx := hxk HK.out
      have dx := haf.cell (i := j) (v := .int .u32 x) (by simp [hx])
      have hp := putR_yes a' (8 + 4 * j) c' 4 x (headK k j) wr hrow.reads (by omega) hxx.1 rfl
      have hg : (j : Int) < 5 := by omega
      have HR := Lib.hid (And.intro hrow (And.intro hak (And.intro haf (And.intro hb (And.intro hsz hx)))))
      have HP := Lib.hid hp
      clear hrow hak haf hb hsz hp hx hxk
      go_wp2_with fail
      refine HP.out.mono ?_
      rintro e w2 ⟨a2, c2, rfl, hb2, hr2⟩
      have hbb := HR.out.2.2.2.1
      have hin := hb2.mono hbb.size
      rw [← headK_succ k HR.out.2.2.2.2.2] at hr2
      have H2 := Lib.hid (And.intro (hr2.lower hbb.size) (And.intro (HR.out.2.1.keep hb2) (And.intro (HR.out.2.2.1.keep hb2) (And.intro (hbb.trans hin) (Nat.lt_of_lt_of_le HR.out.2.2.2.2.1 hb2.size)))))
      clear hbb hin hb2 hr2
      go_wp2
      go_roundw
      case rel => exact ⟨j + 1, a2, c2, by omega, by rw [show 8 + 4 * (j + 1) = 8 + 4 * j + 4 by omega], by go_num, by rw [show 8 + 4 * (j + 1) = 8 + 4 * j + 4 by omega]; exact H2.out.1, H2.out.2.1, H2.out.2.2.1, H2.out.2.2.2.1, H2.out.2.2.2.2⟩
      case measure => simp [intOf]; omega
    · obtain rfl : j = 5 := by omega
      have d6 := hak.cell (i := 6) rfl
      have o6 := HK.out.out
      have o7 := HK.out.inn
      have hp := putR_yes a' (8 + 4 * 5) c' 2 k.out (headK k 5) wr hrow.reads (by omega) HK.out.out.1 rfl
      have HR := Lib.hid (And.intro hrow (And.intro hak hb))
      have HP := Lib.hid hp
      clear hrow hak hb hp haf
      go_wp2_with fail
      refine HP.out.mono ?_
      rintro e w2 ⟨a2, c2, rfl, hb2, hr2⟩
      have hbb := HR.out.2.2
      have hak2 := HR.out.2.1.keep hb2
      have d7 := hak2.cell (i := 7) rfl
      have hp := putR_yes a2 (8 + 4 * 5 + 2) c2 2 k.inn (headK k 5 ++ enc k.out 2) w2 hr2.reads (by omega) HK.out.inn.1 rfl
      have H2 := Lib.hid (hbb.trans (hb2.mono hbb.size))
      have HP := Lib.hid hp
      clear hbb hb2 hr2 hak2 hp
      go_wp2_with fail
      refine HP.out.mono ?_
      rintro e w3 ⟨a3, c3, rfl, hb3, hr3⟩
      have H3 := Lib.hid (And.intro (hr3.lower H2.out.size) (H2.out.trans (hb3.mono H2.out.size)))
      clear hb3 hr3
      go_wp2
      go_ret
      exact ⟨a3, c3, rfl, H3.out.1, H3.out.2⟩
end Go.Proofs.YtcmaclaiholpfaaDoor
