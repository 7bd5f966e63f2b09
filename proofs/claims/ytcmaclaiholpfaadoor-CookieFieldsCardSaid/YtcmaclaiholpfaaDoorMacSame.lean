/-
  The program's mac: Same.
-/
import Derived.Test.YtcmaclaiholpfaaDoorMgA
namespace Go.Proofs.YtcmaclaiholpfaaDoor
open Go.RowKit
set_option linter.unusedVariables false

set_option maxHeartbeats 400000 in
theorem msame_any (a b : Option Addr) (n ca cb m : Nat) (zs ys : List Int) (w : World) (ha : Reads w a n zs) (hb : Reads w b m ys) (za : Byt zs) (zb : Byt ys) (hn : n ≤ 281474976710656) (hm : m ≤ 281474976710656) :
    Calls Tryd.prog 25 #[.slice a n ca, .slice b m cb] w fun e w' => e = .returned (.bool (decide (zs = ys))) ∧ w = w' := by
  obtain ⟨la, ha⟩ := ha
  obtain ⟨lb, hb⟩ := hb
  by_cases hnm : n = m
  · subst hnm
    have HL := Lib.hid la
    have HM := Lib.hid lb
    clear la lb
    have hCa : ∀ i, i < n → ∃ ba oa, a = some ⟨ba, oa, none⟩ ∧ w.cell? ⟨ba, oa + i, none⟩ = some (.int .u8 (zs[i]?.getD 0)) := by
      intro i hi
      rcases ha with h | ⟨ba, oa, e, _, h⟩
      · omega
      · exact ⟨ba, oa, e, h i hi⟩
    have hCb : ∀ i, i < n → ∃ ba oa, b = some ⟨ba, oa, none⟩ ∧ w.cell? ⟨ba, oa + i, none⟩ = some (.int .u8 (ys[i]?.getD 0)) := by
      intro i hi
      rcases hb with h | ⟨ba, oa, e, _, h⟩
      · omega
      · exact ⟨ba, oa, e, h i hi⟩
    have HA := Lib.hid hCa
    have HB := Lib.hid hCb
    clear hCa hCb ha hb
    go_enter Tryd.func25, Tryd.ntmps25
    go_wp2
    go_loop [5, 15] (fun u i => ∃ (k : Nat) (v : Int), k ≤ n ∧ i = .int .i64 k ∧ u = .int .u8 v ∧ 0 ≤ v ∧ v < 256 ∧ Hid (v = 0 ↔ same zs ys k)) (fun _ i => n - (intOf i).toNat)
    case atStart => exact ⟨0, 0, Nat.zero_le _, rfl, rfl, by omega, by omega, show _ ↔ _ by simp [same]⟩
    case round =>
      obtain ⟨k, v, hk, rfl, rfl, v0, v1, hv⟩ := hrel
      by_cases hlt : k < n
      · obtain ⟨ba, oa, rfl, hca⟩ := HA.out k hlt
        obtain ⟨bb, ob, rfl, hcb⟩ := HB.out k hlt
        obtain ⟨x0, x1⟩ := za.getD k
        obtain ⟨y0, y1⟩ := zb.getD k
        have HX := Lib.hid (u8_or_xor v _ _ v0 v1 x0 x1 y0 y1)
        have HS := Lib.hid (same_succ (zs := zs) (ys := ys) (k := k) (by rw [HL.out]; exact hlt) (by rw [HM.out]; exact hlt))
        go_wp2
        go_round
        case rel => exact ⟨k + 1, _, by omega, by go_num, rfl, HX.out.1, HX.out.2.1, HX.out.2.2.trans ((and_congr_left fun _ => hv.out).trans HS.out.symm)⟩
        case measure => simp [intOf]; omega
      · go_wp2
        go_ret
        obtain rfl : k = n := by omega
        refine ⟨?_, rfl⟩
        have e : decide (zs = ys) = (v == 0) := by
          have h1 := hv.out
          unfold same at h1
          rw [List.take_of_length_le (by rw [HL.out]; exact Nat.le_refl _), List.take_of_length_le (by rw [HM.out]; exact Nat.le_refl _)] at h1
          by_cases h0 : v = 0
          · simp [h0, h1.1 h0]
          · have : ¬ zs = ys := fun h => h0 (h1.2 h)
            simp [h0, this]
        rw [e]
        rfl
  · have e : decide (zs = ys) = false := by
      simp only [decide_eq_false_iff_not]
      intro h
      rw [h] at la
      exact hnm (la.symm.trans lb)
    have hne : ((n : Int) == (m : Int)) = false := by simp; omega
    have hne' : ((n : Int) != (m : Int)) = true := by simp; omega
    have E := Lib.hid e
    clear e la lb ha hb
    go_enter Tryd.func25, Tryd.ntmps25
    go_wp2
    go_ret
    exact ⟨by rw [E.out]; rfl, rfl⟩
end Go.Proofs.YtcmaclaiholpfaaDoor
