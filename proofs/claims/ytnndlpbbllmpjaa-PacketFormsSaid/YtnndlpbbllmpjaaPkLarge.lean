/-
  Stage 10: Large, the statements' bound.
-/
import Derived.Test.YtnndlpbbllmpjaaPkSpec
namespace Go.Proofs.Ytnndlpbbllmpjaa
open Go.RowKit
set_option linter.unusedVariables false
set_option linter.unusedSimpArgs false

def sumN (L : List Ck) : Nat := (L.map Ck.n).sum
def sumM (L : List Ck) : Nat := (L.map fun r => min r.n 262144).sum
theorem sumM_next {L : List Ck} {i : Nat} {r : Ck} (h : L[i]? = some r) : sumM (L.take (i + 1)) = sumM (L.take i) + min r.n 262144 := by
  rw [take_next h]; simp [sumM]
theorem sumN_of {L : List Ck} : sumM L ≤ 131072 → sumN L = sumM L := by
  induction L with
  | nil => intro _; rfl
  | cons r L ih =>
    intro h
    simp [sumM, sumN] at h ih ⊢
    have := ih (by omega)
    omega

/-- What Large answers. -/
def LargeAns (w : World) (L : List Ck) (n : Nat) (e : Ending) (w' : World) : Prop := ∃ lg : Bool, e = .returned (.bool lg) ∧ Below w.heap.size w w' ∧ (lg = false → sumN L + n ≤ 131072 ∧ n ≤ 500)
set_option maxRecDepth 100000 in
set_option maxHeartbeats 1600000 in
theorem large_any (tag : Int) (a : Option Addr) (n c : Nat) (L : List Ck) (w : World) (h : RowsCk w a n c L) :
    Calls Try.prog 11 #[.agg #[.int .u32 tag, .slice a n c]] w fun e w' => LargeAns w L n e w' := by
  obtain ⟨w0, hw0⟩ : ∃ w0, w.alloc (.cells #[.int .u32 tag, .slice a n c] 25) = w0 := ⟨_, rfl⟩
  have hb0 : Below w.heap.size w w0 := by rw [← hw0]; exact (Below.refl _ _).alloc (Nat.le_refl _) _
  have hA : Arr w0 w.heap.size 25 [.int .u32 tag, .slice a n c] := by rw [← hw0]; exact arr_new _ _ _
  have c1 := hA.cell (i := 1) rfl
  have hnm : n ≤ 9223372036854775807 := by have h1 := h.hle; have h2 := h.hcap; unfold maxLen at h2; omega
  have hl : L.length = n := h.hlen
  have HR := Lib.hid (h.below hb0)
  have HL := Lib.hid hl
  have HB := Lib.hid hb0
  clear h hl hA hb0
  by_cases hbig : 131072 < n
  · have g1 : decide ((n : Int) ≤ 131072) = false := by simp; omega
    have g2 : (131072 : Int) < (n : Int) := by omega
    have g3 : (0 : Int) < (n : Int) := by omega
    go_enter Try.func11, Try.ntmps11
    go_wp2
    go_loop [3, 4] (fun s i => i = .int .i64 0 ∧ s = .int .i64 (n : Int)) (fun _ _ => 0)
    case atStart => exact ⟨rfl, rfl⟩
    case round =>
      obtain ⟨rfl, rfl⟩ := hrel
      go_wp2
      go_ret
      exact ⟨true, rfl, HB.out, fun h => by cases h⟩
  · go_enter Try.func11, Try.ntmps11
    go_wp2
    go_loop [3, 4] (fun s i => ∃ (j T : Nat), j ≤ n ∧ i = .int .i64 (j : Int) ∧ s = .int .i64 (T : Int) ∧ T = n + sumM (L.take j) ∧ T ≤ 393216) (fun _ i => n - (intOf i).toNat)
    case atStart => exact ⟨0, n, Nat.zero_le _, rfl, rfl, rfl, by omega⟩
    case round =>
      obtain ⟨j, T, hj, rfl, rfl, hT, hT2⟩ := hrel
      have HT := Lib.hid hT
      clear hT
      by_cases hjn : j < n
      · have hj0 : (0 : Int) ≤ (j : Int) := by omega
        have hj1 : (j : Int) < (n : Int) := by omega
        by_cases hle : T ≤ 131072
        · obtain ⟨b, off, r, ha, hr, hk, h0, h1, h2⟩ := HR.out.get hjn
          have hnx := sumM_next hr
          have hTi : (T : Int) ≤ 131072 := by omega
          have HNX := Lib.hid hnx
          subst ha
          clear hk hr hnx
          by_cases hm : r.n < 262144
          · have hm1 : (r.n : Int) < 262144 := by omega
            have hmin : min (r.n : Int) 262144 = (r.n : Int) := by omega
            have hif : (if r.n < 262144 then (r.n : Int) else 262144) = (r.n : Int) := if_pos hm
            have HM := Lib.hid (show min r.n 262144 = r.n by omega)
            go_wp2
            exact ⟨⟨j + 1, T + r.n, by omega, congrArg (Value.int .i64) (by omega), congrArg (Value.int .i64) (by omega), by rw [HNX.out, HM.out, HT.out]; omega, by omega⟩, by simp [intOf]; omega⟩
          · have hm1 : ¬ (r.n : Int) < 262144 := by omega
            have hmin : min (r.n : Int) 262144 = 262144 := by omega
            have hif : (if r.n < 262144 then (r.n : Int) else 262144) = 262144 := if_neg hm
            have HM := Lib.hid (show min r.n 262144 = 262144 by omega)
            go_wp2
            exact ⟨⟨j + 1, T + 262144, by omega, congrArg (Value.int .i64) (by omega), congrArg (Value.int .i64) (by omega), by rw [HNX.out, HM.out, HT.out]; omega, by omega⟩, by simp [intOf]; omega⟩
        · have hTd : decide ((T : Int) ≤ 131072) = false := by simp; omega
          have hTi : (131072 : Int) < (T : Int) := by omega
          go_wp2
          go_ret
          exact ⟨true, rfl, HB.out, fun h => by cases h⟩
      · have hj1 : decide ((j : Int) < (n : Int)) = false := by simp; omega
        by_cases hle : T ≤ 131072
        · have hTd : decide ((131072 : Int) < (T : Int)) = false := by simp; omega
          have hTi : ¬ (131072 : Int) < (T : Int) := by omega
          go_wp2
          go_ret
          refine ⟨decide ((500 : Int) < (n : Int)), rfl, HB.out, fun h => ?_⟩
          have h5 : ¬ (500 : Int) < (n : Int) := of_decide_eq_false h
          have hT := HT.out
          rw [List.take_of_length_le (by rw [HL.out]; omega)] at hT
          rw [sumN_of (by omega)]
          omega
        · have hTi : (131072 : Int) < (T : Int) := by omega
          go_wp2
          go_ret
          exact ⟨true, rfl, HB.out, fun h => by cases h⟩
end Go.Proofs.Ytnndlpbbllmpjaa
