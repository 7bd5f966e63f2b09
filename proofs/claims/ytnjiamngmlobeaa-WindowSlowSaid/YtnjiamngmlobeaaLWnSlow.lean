/-
  The walk of WindowSlow.
-/
import Derived.Test.YtnjiamngmlobeaaWnWk
import Derived.Deep.Cut
import Derived.OpenShut
namespace Go.Proofs.Ytnjiamngmlobeaa
open Go.RowKit
set_option linter.unusedVariables false
set_option linter.unusedSimpArgs false

/-- One more full acknowledgement of an mtu. -/
theorem slow_next {mtu last size thr part : Int} {c : Nat} (h : WGood mtu last size thr part c) (ht : thr = 4 * mtu) (k : Int) (h0 : 0 ≤ k) (hs : size = min (mtu + k) last) :
    akS mtu last size thr part mtu true ≤ min (mtu + (k + mtu)) last ∧ (akS mtu last size thr part mtu true ≠ min (mtu + (k + mtu)) last → 4 * mtu < akS mtu last size thr part mtu true) := by
  have hA := (h.acked mtu true)
  obtain ⟨a1, a2, a3, a4, a5, a6, a7, a8, a9, a10⟩ := h
  obtain ⟨hg, h2, h3, -⟩ := hA
  have h5 := hg.s1
  refine ⟨by omega, fun hne => ?_⟩
  by_cases hle : size ≤ thr
  · exfalso
    apply hne
    simp only [akS, if_neg (show ¬ mtu < 1 by omega), if_pos hle, if_true]
    omega
  · omega

set_option maxHeartbeats 3200000 in
theorem wslowY (mtu last n : Int) (w : World) (htk : wtakes mtu last = true) (hn0 : 0 ≤ n ∧ n ≤ 65535) :
    Calls Try.prog 5 #[.int .i64 mtu, .int .i64 last, .int .u16 n] w fun e w' => e = .returned (.bool true) ∧ Below w.heap.size w w' := by
  have hn := wnew_yes w mtu last 0 htk
  obtain ⟨m0, m1, o0, o1⟩ := wtakes_iff.1 htk
  clear htk
  have e1 : wT mtu (2 * mtu) = 4 * mtu := by unfold wT; omega
  have e2 : wT mtu mtu = 4 * mtu := by unfold wT; omega
  have HE := Lib.hid (And.intro e1 e2)
  clear e1 e2
  have hr0 : 0 ≤ n % 300 ∧ n % 300 < 300 := by omega
  obtain ⟨g, hg⟩ : ∃ g, g = w.heap.size := ⟨_, rfl⟩
  rw [← hg] at hn
  have HGG := Lib.hid hg
  clear hg
  go_enter Try.func5, Try.ntmps5
  go_wp2_with fail
  refine hn.mono ?_
  rintro e wa ⟨rfl, hs1, ht1, _⟩
  have hl := wtimeout_any wa g _ _ _ _ _ _ hs1 0
  rw [HE.out.1] at hl
  have HT1 := Lib.hid ht1
  clear hn hs1 ht1
  go_wp2_with fail
  refine hl.mono ?_
  rintro e wb ⟨rfl, hs2, ht2⟩
  have hl2 := wtimeout_any wb g _ _ _ _ _ _ hs2 0
  rw [HE.out.2] at hl2
  have HT2 := Lib.hid (HT1.out.over ht2 (by have := HGG.out; intro j hj; simp at hj; omega))
  clear hl hs2 ht2
  go_wp2_with fail
  refine hl2.mono ?_
  rintro e wc ⟨rfl, hs3, ht3⟩
  have hv := wthr_any wc g _ _ _ _ _ _ hs3
  have HS3 := Lib.hid (And.intro hs3 (HT2.out.over ht3 (by have := HGG.out; intro j hj; simp at hj; omega)))
  clear hl2 hs3 ht3
  go_wp2_with fail
  refine hv.mono ?_
  rintro e w' ⟨rfl, rfl⟩
  clear hv
  go_wp2
  go_loopw [10] (fun x wr => ∃ (kx : Nat) (size part : Int), kx ≤ 300 ∧ x = .int .i64 ((kx : Int) + 1) ∧ Wn 45 wr g mtu last size (4 * mtu) part kx ∧ Turn [] w wr ∧ size = min (mtu + (kx : Int) * mtu) last) (fun x _ => 400 - (intOf x).toNat)
  case atStart => exact ⟨0, _, _, by omega, rfl, HS3.out.1, HS3.out.2, by simp; omega⟩
  case round =>
    obtain ⟨kx, size, part, hi', rfl, hs0, hT, hsz⟩ := hrel
    have HT := Lib.hid hT
    clear hT
    by_cases hil : (kx : Int) + 1 ≤ n % 300
    · have d3 : decide ((kx : Int) + 1 ≤ n % 300) = true := by simpa using hil
      have hp0 : 0 ≤ (kx : Int) * mtu := Int.mul_nonneg (by omega) (by omega)
      have hp1 : ((kx : Int) + 1) * mtu = (kx : Int) * mtu + mtu := by rw [Int.add_mul, Int.one_mul]
      have hp2 : ((kx : Int) + 1) * mtu ≤ 450000 := by
        have := Int.mul_le_mul (show (kx : Int) + 1 ≤ 300 by omega) m1 (by omega) (by omega)
        omega
      have hnx := slow_next hs0.good rfl _ hp0 hsz
      rw [← hp1] at hnx
      have hp3 : 0 ≤ ((kx : Int) + 1) * mtu := by omega
      have hak := wacked_any wr g _ _ _ _ _ _ mtu true (by omega) hs0
      generalize akS mtu last size (4 * mtu) part mtu true = S' at *
      generalize akP last size (4 * mtu) part mtu true = P' at *
      clear hs0 hsz hp1 hp0
      go_wp2_with fail
      refine hak.mono ?_
      rintro e wd ⟨rfl, hsd, htd⟩
      have hv := wsize_any wd g _ _ _ _ _ _ hsd
      have HD := Lib.hid (And.intro hsd (HT.out.over htd (by have := HGG.out; intro j hj; simp at hj; omega)))
      clear hak hsd htd
      go_wp2_with fail
      refine hv.mono ?_
      rintro e w' ⟨rfl, rfl⟩
      by_cases heq : S' = min (mtu + ((kx : Int) + 1) * mtu) last
      · have hb : (S' == min (mtu + ((kx : Int) + 1) * mtu) last) = true := by simpa using heq
        have HX := Lib.hid heq
        clear hv hnx heq
        go_wp2
        go_roundw
        case rel => exact ⟨kx + 1, _, _, by omega, by go_num, HD.out.1, HD.out.2, by rw [HX.out]; congr 1⟩
        case measure => simp [intOf]; omega
      · have hb : (S' == min (mtu + ((kx : Int) + 1) * mtu) last) = false := by simpa using heq
        have d4 : decide (4 * mtu < S') = true := by simpa using hnx.2 heq
        have d5 : decide (S' ≤ min (mtu + ((kx : Int) + 1) * mtu) last) = true := by simp only [decide_eq_true_eq]; exact hnx.1
        clear hnx heq
        go_wp2_with fail
        refine hv.mono ?_
        rintro e w' ⟨rfl, rfl⟩
        go_wp2_with fail
        refine hv.mono ?_
        rintro e w' ⟨rfl, rfl⟩
        clear hv
        go_wp2_with fail
        refine (works_any wd).mono ?_
        rintro e w6 ⟨rfl, ht6⟩
        have HT6 := Lib.hid (HD.out.2.trans ht6)
        clear ht6
        go_wp2
        go_ret
        exact ⟨rfl, HT6.out.below (Nat.le_refl _) (by simp)⟩
    · have d3 : decide ((kx : Int) + 1 ≤ n % 300) = false := by simpa using hil
      clear hs0 hsz
      go_wp2_with fail
      refine (works_any wr).mono ?_
      rintro e w6 ⟨rfl, ht6⟩
      have HT6 := Lib.hid (HT.out.trans ht6)
      clear ht6
      go_wp2
      go_ret
      exact ⟨rfl, HT6.out.below (Nat.le_refl _) (by simp)⟩

set_option maxHeartbeats 800000 in
theorem wslowN (mtu last n : Int) (w : World) (htk : wtakes mtu last = false) :
    Calls Try.prog 5 #[.int .i64 mtu, .int .i64 last, .int .u16 n] w fun e w' => e = .returned (.bool true) ∧ Below w.heap.size w w' := by
  have hn := wnew_no w mtu last htk
  clear htk
  go_enter Try.func5, Try.ntmps5
  go_wp2_with fail
  refine hn.mono ?_
  rintro e w' ⟨rfl, rfl⟩
  clear hn
  go_wp2_with fail
  refine (works_any w).mono ?_
  rintro e w6 ⟨rfl, ht6⟩
  have HT6 := Lib.hid ((Turn.refl [] w).trans ht6)
  clear ht6
  go_wp2
  go_ret
  exact ⟨rfl, HT6.out.below (Nat.le_refl _) (by simp)⟩

theorem windowSlow_walk (mtu last n : Int) (w : World) (w1 : (Lit.int .i64 mtu).wf = true) (w2 : (Lit.int .i64 last).wf = true) (w3 : (Lit.int .u16 n).wf = true) :
    Calls Try.prog 5 #[.int .i64 mtu, .int .i64 last, .int .u16 n] w fun e w' => e = .returned (.bool true) ∧ Below w.heap.size w w' := by
  cases htk : wtakes mtu last
  · exact wslowN mtu last n w htk
  · exact wslowY mtu last n w htk (bounds_u16 w3)
end Go.Proofs.Ytnjiamngmlobeaa
