/-
  The walk of WindowAvoids.
-/
import Derived.Test.YtnjiamngmlobeaaWnWk
import Derived.Test.YtnjiamngmlobeaaNums
import Derived.Test.YtnjiamngmlobeaaFrame
import Derived.OpenShut
import Derived.Deep.Cut
namespace Go.Proofs.Ytnjiamngmlobeaa
open Go.RowKit
set_option linter.unusedVariables false
set_option linter.unusedSimpArgs false

theorem Wn.fresh {w : World} {g : Nat} {mtu most size thr : Int} {c : Nat} (h : Wn 45 w g mtu most size thr 0 c) (c' : Nat) : Wn 45 w g mtu most size thr 0 c' := by
  refine ⟨h.blk, ?_⟩
  obtain ⟨a1, a2, a3, a4, a5, a6, a7, a8, a9, a10⟩ := h.good
  exact ⟨a1, a2, a3, a4, a5, a6, a7, a8, a9, by omega⟩

/-- What is so beyond the threshold: the size that the statement holds, what it was told. -/
def Inv (mtu : Int) (k : Nat) (Z T part : Int) : Prop :=
  (∃ q : Int, 5 ≤ q ∧ q ≤ 40 ∧ Z = q * mtu) ∧ 0 ≤ T ∧ T ≤ 1500 * (k : Int) ∧ (Z < 40 * mtu → T = part ∧ T < Z)
theorem Inv.room {mtu : Int} {k : Nat} {Z T part : Int} (h : Inv mtu k Z T part) (m0 : 128 ≤ mtu) : 5 * mtu ≤ Z ∧ Z ≤ 40 * mtu ∧ (Z < 40 * mtu → Z + mtu ≤ 40 * mtu) := by
  obtain ⟨⟨q, q0, q1, rfl⟩, -⟩ := h
  have h5 := Int.mul_le_mul_of_nonneg_right q0 (show 0 ≤ mtu by omega)
  have h4 := Int.mul_le_mul_of_nonneg_right q1 (show 0 ≤ mtu by omega)
  refine ⟨h5, h4, fun hl => ?_⟩
  have hq : q < 40 := by
    rcases Int.lt_or_le q 40 with h | h
    · exact h
    · exact absurd (Int.mul_le_mul_of_nonneg_right h (show 0 ≤ mtu by omega)) (by omega)
  have h6 := Int.mul_le_mul_of_nonneg_right (show q + 1 ≤ 40 by omega) (show 0 ≤ mtu by omega)
  rw [Int.add_mul, Int.one_mul] at h6
  exact h6
theorem Inv.next {mtu : Int} {k : Nat} {Z T part : Int} (h : Inv mtu k Z T part) (m0 : 128 ≤ mtu) (m1 : mtu ≤ 1500) (n : Int) (n0 : 0 ≤ n) (n1 : n < mtu) :
    ((Z ≤ T + n ∧ Z < 40 * mtu) → akS mtu (40 * mtu) Z (4 * mtu) part n true = Z + mtu ∧ Inv mtu (k + 1) (Z + mtu) (T + n - Z) (akP (40 * mtu) Z (4 * mtu) part n true) ∧ T + n - Z < Z + mtu) ∧
    (¬ (Z ≤ T + n ∧ Z < 40 * mtu) → akS mtu (40 * mtu) Z (4 * mtu) part n true = Z ∧ Inv mtu (k + 1) Z (T + n) (akP (40 * mtu) Z (4 * mtu) part n true)) := by
  have hr := h.room m0
  have h' := h
  obtain ⟨⟨q, q0, q1, hq⟩, t0, t1, hl⟩ := h'
  have hz : ¬ Z ≤ 4 * mtu := by omega
  have hw : wQ (40 * mtu) part n = part + n := by unfold wQ; omega
  refine ⟨fun he => ?_, fun he => ?_⟩
  · obtain ⟨e1, e2⟩ := hl he.2
    have hn : ¬ n < 1 := by omega
    have hd : decide (Z ≤ wQ (40 * mtu) part n) = true := decide_eq_true (by omega)
    simp only [akS, akP, if_neg hn, if_neg hz, hd, Bool.true_and, if_true]
    rw [hw]
    refine ⟨by omega, ⟨⟨q + 1, by omega, ?_, by rw [Int.add_mul, Int.one_mul, ← hq]⟩, by omega, by omega, fun _ => ⟨by omega, by omega⟩⟩, by omega⟩
    rcases Int.lt_or_le q 40 with h | h
    · omega
    · exact absurd (Int.mul_le_mul_of_nonneg_right h (show 0 ≤ mtu by omega)) (by omega)
  · by_cases hn : n < 1
    · simp only [akS, akP, if_pos hn]
      exact ⟨trivial, ⟨q, q0, q1, hq⟩, by omega, by omega, fun hlt => by have := hl hlt; omega⟩
    · by_cases hZ : Z < 40 * mtu
      · obtain ⟨e1, e2⟩ := hl hZ
        have hd : decide (Z ≤ wQ (40 * mtu) part n) = false := decide_eq_false (by omega)
        simp only [akS, akP, if_neg hn, if_neg hz, hd, Bool.true_and, Bool.false_eq_true, if_false]
        rw [hw]
        exact ⟨by omega, ⟨q, q0, q1, hq⟩, by omega, by omega, fun _ => ⟨by omega, by omega⟩⟩
      · refine ⟨?_, ⟨q, q0, q1, hq⟩, by omega, by omega, fun hlt => absurd hlt hZ⟩
        simp only [akS, if_neg hn, if_neg hz]
        split <;> omega
theorem slowstep {mtu s : Int} (m0 : 128 ≤ mtu) (h : s ≤ 4 * mtu) : akS mtu (40 * mtu) s (4 * mtu) 0 mtu true = s + mtu ∧ akP (40 * mtu) s (4 * mtu) 0 mtu true = 0 := by
  have hn : ¬ mtu < 1 := by omega
  refine ⟨?_, ?_⟩
  · simp only [akS, if_neg hn, if_pos h, if_true]
    omega
  · simp only [akP, if_neg hn, if_pos h]

set_option maxRecDepth 10000 in
set_option maxHeartbeats 12800000 in
theorem wavoidsF (mtu : Int) (a : Option Addr) (len cap : Nat) (zs : List Int) (w : World) (m0 : 128 ≤ mtu) (m1 : mtu ≤ 1500) (hz : Nums .u16 w a len zs) (hlen : len ≤ 200) :
    Calls Try.prog 6 #[.int .i64 mtu, .slice a len cap] w fun e w' => e = .returned (.bool true) ∧ Below w.heap.size w w' := by
  have hn := wnew_yes w mtu (40 * mtu) 0 (wtakes_iff.2 ⟨m0, m1, by omega, by omega⟩)
  have d1 : decide (200 < (len : Int)) = false := by simp; omega
  have d2 : decide (mtu < 128) = false := by simp; omega
  have d3 : decide (1500 < mtu) = false := by simp; omega
  have e1 : wT mtu (2 * mtu) = 4 * mtu := by unfold wT; omega
  have e2 : wT mtu mtu = 4 * mtu := by unfold wT; omega
  have hm0 : (mtu == 0) = false := by simp; omega
  have hmz : ¬ mtu = 0 := by omega
  have HE := Lib.hid (And.intro e1 e2)
  have HZ := Lib.hid hz
  clear e1 e2 hz
  obtain ⟨g, hg⟩ : ∃ g, g = w.heap.size := ⟨_, rfl⟩
  rw [← hg] at hn
  have HGG := Lib.hid hg
  clear hg
  go_enter Try.func6, Try.ntmps6
  go_wp2_with fail
  refine hn.mono ?_
  rintro e wa ⟨rfl, hs1, ht1, _⟩
  have hl := wtimeout_any wa g _ _ _ _ _ _ hs1 0
  rw [HE.out.1] at hl
  have HT1 := Lib.hid ht1
  clear hn hs1 ht1
  go_wp2_with fail
  refine hl.mono ?_
  rintro e wb ⟨rfl, hs2, ht2⟩
  have hl2 := wtimeout_any wb g _ _ _ _ _ _ hs2 0
  rw [HE.out.2] at hl2
  have HT2 := Lib.hid (HT1.out.over ht2 (by have := HGG.out; intro j hj; simp at hj; omega))
  clear hl hs2 ht2
  go_wp2_with fail
  refine hl2.mono ?_
  rintro e wc ⟨rfl, hs3, ht3⟩
  have HS3 := Lib.hid (And.intro hs3 (HT2.out.over ht3 (by have := HGG.out; intro j hj; simp at hj; omega)))
  clear hl2 hs3 ht3
  go_wp2
  go_loopw [7] (fun x wr => ∃ (s : Int), (s = mtu ∨ s = 2 * mtu ∨ s = 3 * mtu ∨ s = 4 * mtu ∨ s = 5 * mtu) ∧ Wn 45 wr g mtu (40 * mtu) s (4 * mtu) 0 0 ∧ Turn [] w wr) (fun _ wr => match wr.cell? ⟨g, 2, none⟩ with | some v => 100000 - (intOf v).toNat | none => 0)
  case atStart => exact ⟨mtu, .inl rfl, HS3.out.1, HS3.out.2⟩
  case round =>
    obtain ⟨s, hs, hs0, hT⟩ := hrel
    have HT := Lib.hid hT
    have hv1 := wsize_any wr g _ _ _ _ _ _ hs0
    have hv2 := wthr_any wr g _ _ _ _ _ _ hs0
    have HS0 := Lib.hid hs0
    clear hT hs0
    by_cases h4 : s ≤ 4 * mtu
    · have d4 : decide (s ≤ 4 * mtu) = true := by simpa using h4
      have d5 : decide (s + mtu ≤ s) = false := by simp only [decide_eq_false_iff_not]; omega
      have hak := wacked_at wr g _ _ _ _ _ _ mtu true (by omega) HS0.out (s + mtu) 0 (slowstep m0 h4).1 (slowstep m0 h4).2
      have hs5 : s + mtu = mtu ∨ s + mtu = 2 * mtu ∨ s + mtu = 3 * mtu ∨ s + mtu = 4 * mtu ∨ s + mtu = 5 * mtu := by omega
      have HS5 := Lib.hid (And.intro hs5 hs)
      clear hs5 hs h4
      go_wp2_with fail
      refine hv1.mono ?_
      rintro e w' ⟨rfl, rfl⟩
      go_wp2_with fail
      refine hv2.mono ?_
      rintro e w' ⟨rfl, rfl⟩
      go_wp2_with fail
      refine hv1.mono ?_
      rintro e w' ⟨rfl, rfl⟩
      clear hv1 hv2
      go_wp2_with fail
      refine hak.mono ?_
      rintro e wd ⟨rfl, hsd, htd⟩
      have hv3 := wsize_any wd g _ _ _ _ _ _ hsd
      have HD := Lib.hid (And.intro hsd (HT.out.over htd (by have := HGG.out; intro j hj; simp at hj; omega)))
      clear hak hsd htd
      go_wp2_with fail
      refine hv3.mono ?_
      rintro e w' ⟨rfl, rfl⟩
      clear hv3
      go_wp2
      go_roundw
      case rel => exact ⟨s + mtu, HS5.out.1, HD.out.1.fresh 0, HD.out.2⟩
      case measure =>
        have k1 := HD.out.1.blk.cell (i := 2) rfl
        have k2 := HS0.out.blk.cell (i := 2) rfl
        have k3 := HS5.out.2
        simp only [k1, k2, intOf]
        omega
    · have d4 : decide (s ≤ 4 * mtu) = false := by simpa using h4
      obtain rfl : s = 5 * mtu := by omega
      clear hs h4
      go_wp2_with fail
      refine hv1.mono ?_
      rintro e w' ⟨rfl, rfl⟩
      go_wp2_with fail
      refine hv2.mono ?_
      rintro e w' ⟨rfl, rfl⟩
      go_wp2_with fail
      refine hv1.mono ?_
      rintro e w' ⟨rfl, rfl⟩
      clear hv1 hv2
      go_wp2
      go_loopw [8, 9, 10, 11] (fun y8 y9 y10 _ wr => ∃ (k : Nat) (Z T part : Int), k ≤ len ∧ y8 = .int .i64 Z ∧ y9 = .int .i64 T ∧ y10 = .int .i64 (k : Int) ∧ Wn 45 wr g mtu (40 * mtu) Z (4 * mtu) part k ∧ Turn [] w wr ∧ Inv mtu k Z T part) (fun _ _ y10 _ _ => len - (intOf y10).toNat)
      case atStart => exact ⟨0, 5 * mtu, 0, 0, by omega, rfl, rfl, rfl, HS0.out, HT.out, ⟨5, by omega, by omega, rfl⟩, by omega, by omega, fun _ => ⟨rfl, by omega⟩⟩
      case round =>
        obtain ⟨k, Z, U, part, hk, rfl, rfl, rfl, hsk, hTk, hI⟩ := hrel
        have HTK := Lib.hid hTk
        by_cases hil : k < len
        · obtain ⟨z, hzi⟩ : ∃ z, zs[k]? = some z := ⟨zs[k]'(by rw [HZ.out.1]; exact hil), by simp [HZ.out.1, hil]⟩
          have hwz := bounds_u16 (HZ.out.2.2.1 z (List.mem_of_getElem? hzi))
          obtain ⟨gl, off, rfl, hgl, hc⟩ := (HZ.out.below (hTk.below (Nat.le_refl _) (by simp)) (Nat.le_refl _)).2.2.2 k z hzi
          have n0 : 0 ≤ z % mtu := Int.emod_nonneg _ (by omega)
          have n1 : z % mtu < mtu := Int.emod_lt_of_pos _ (by omega)
          have hnx := hI.next m0 m1 (z % mtu) n0 n1
          have hroom := hI.room m0
          have hU : 0 ≤ U ∧ U ≤ 300000 := ⟨hI.2.1, by have := hI.2.2.1; omega⟩
          have hak := wacked_any wr g _ _ _ _ _ _ (z % mtu) true (by omega) hsk
          have HH := Lib.hid (And.intro hzi (And.intro hgl hI))
          clear hzi hgl hI hTk hsk
          generalize akS mtu (40 * mtu) Z (4 * mtu) part (z % mtu) true = S' at *
          generalize akP (40 * mtu) Z (4 * mtu) part (z % mtu) true = P' at *
          generalize hnn : z % mtu = n at *
          obtain ⟨wd0, hwd0⟩ : ∃ wd0 : World, wd0 = wr := ⟨_, rfl⟩
          go_wp2_with fail
          refine hak.mono ?_
          rintro e wd ⟨rfl, hsd, htd⟩
          have hv := wsize_any wd g _ _ _ _ _ _ hsd
          have HD := Lib.hid (And.intro hsd (HTK.out.over htd (by have := HGG.out; intro j hj; simp at hj; omega)))
          clear hak hsd htd hwd0 hc
          go_wp2
          go_loopw [8, 9] (fun y8 y9 wq => ∃ (Z1 T1 : Int), y8 = .int .i64 Z1 ∧ y9 = .int .i64 T1 ∧ wq = wd ∧ ((Z1 = Z ∧ T1 = U + n) ∨ (Z1 = Z + mtu ∧ T1 = U + n - Z ∧ Z ≤ U + n ∧ Z < 40 * mtu))) (fun y8 _ _ => 1000000 - (intOf y8).toNat)
          case atStart => exact ⟨Z, U + n, rfl, rfl, rfl, .inl ⟨rfl, rfl⟩⟩
          case round =>
            obtain ⟨Z1, T1, rfl, rfl, rfl, hor⟩ := hrel
            rcases hor with ⟨rfl, rfl⟩ | ⟨rfl, rfl, hle, hlt⟩
            · by_cases he : Z1 ≤ U + n ∧ Z1 < 40 * mtu
              · have d6 : decide (Z1 ≤ U + n) = true := by simpa using he.1
                have d7 : decide (Z1 < 40 * mtu) = true := by simpa using he.2
                have HEE := Lib.hid (And.intro he hnx)
                clear hnx
                go_wp2
                go_roundw
                case rel => exact ⟨Z1 + mtu, U + n - Z1, rfl, rfl, trivial, .inr ⟨rfl, rfl, HEE.out.1.1, HEE.out.1.2⟩⟩
                case measure => simp [intOf]; omega
              · obtain ⟨rfl, hI'⟩ := hnx.2 he
                by_cases he1 : S' ≤ U + n
                · have d6 : decide (S' ≤ U + n) = true := by simpa using he1
                  have d7 : decide (S' < 40 * mtu) = false := by simp only [decide_eq_false_iff_not]; omega
                  clear he
                  have HN := Lib.hid hI'
                  have hmin : (S' == min (S') (40 * mtu)) = true := by simp; omega
                  clear hI' hroom hnx
                  go_wp2_with fail
                  refine hv.mono ?_
                  rintro e w' ⟨rfl, rfl⟩
                  clear hv
                  go_wp2
                  go_roundw
                  case rel => exact ⟨k + 1, _, _, _, by omega, rfl, rfl, by go_num, HD.out.1, HD.out.2, HN.out⟩
                  case measure => simp [intOf]; omega
                · have d6 : decide (S' ≤ U + n) = false := by simpa using he1
                  clear he
                  have HN := Lib.hid hI'
                  have hmin : (S' == min (S') (40 * mtu)) = true := by simp; omega
                  clear hI' hroom hnx
                  go_wp2_with fail
                  refine hv.mono ?_
                  rintro e w' ⟨rfl, rfl⟩
                  clear hv
                  go_wp2
                  go_roundw
                  case rel => exact ⟨k + 1, _, _, _, by omega, rfl, rfl, by go_num, HD.out.1, HD.out.2, HN.out⟩
                  case measure => simp [intOf]; omega
            · obtain ⟨rfl, hI', hlt2⟩ := hnx.1 ⟨hle, hlt⟩
              have d6 : decide (Z + mtu ≤ U + n - Z) = false := by simp only [decide_eq_false_iff_not]; omega
              have HN := Lib.hid hI'
              have hmin : (Z + mtu == min (Z + mtu) (40 * mtu)) = true := by simp; omega
              clear hI' hroom hnx
              go_wp2_with fail
              refine hv.mono ?_
              rintro e w' ⟨rfl, rfl⟩
              clear hv
              go_wp2
              go_roundw
              case rel => exact ⟨k + 1, _, _, _, by omega, rfl, rfl, by go_num, HD.out.1, HD.out.2, HN.out⟩
              case measure => simp [intOf]; omega
        · obtain rfl : len = k := by omega
          clear hTk hsk hI
          go_wp2_with fail
          refine (works_any wr).mono ?_
          rintro e w6 ⟨rfl, ht6⟩
          have HT6 := Lib.hid (HTK.out.trans ht6)
          clear ht6
          go_wp2
          go_ret
          exact ⟨rfl, HT6.out.below (Nat.le_refl _) (by simp)⟩

set_option maxHeartbeats 800000 in
theorem wavoids1 (mtu : Int) (a : Option Addr) (len cap : Nat) (w : World) (h : mtu < 128) :
    Calls Try.prog 6 #[.int .i64 mtu, .slice a len cap] w fun e w' => e = .returned (.bool true) ∧ Below w.heap.size w w' := by
  have d1 : decide (mtu < 128) = true := by simpa using h
  clear h
  go_enter Try.func6, Try.ntmps6
  go_wp2_with fail
  refine (works_any w).mono ?_
  rintro e w1 ⟨rfl, ht1⟩
  have HT1 := Lib.hid ht1
  clear ht1
  go_wp2
  go_ret
  exact ⟨rfl, HT1.out.below (Nat.le_refl _) (by simp)⟩
set_option maxHeartbeats 800000 in
theorem wavoids2 (mtu : Int) (a : Option Addr) (len cap : Nat) (w : World) (h : 1500 < mtu) :
    Calls Try.prog 6 #[.int .i64 mtu, .slice a len cap] w fun e w' => e = .returned (.bool true) ∧ Below w.heap.size w w' := by
  have d1 : decide (mtu < 128) = false := by simp; omega
  have d2 : decide (1500 < mtu) = true := by simpa using h
  clear h
  go_enter Try.func6, Try.ntmps6
  go_wp2_with fail
  refine (works_any w).mono ?_
  rintro e w1 ⟨rfl, ht1⟩
  have HT1 := Lib.hid ht1
  clear ht1
  go_wp2
  go_ret
  exact ⟨rfl, HT1.out.below (Nat.le_refl _) (by simp)⟩
set_option maxHeartbeats 800000 in
theorem wavoids3 (mtu : Int) (a : Option Addr) (len cap : Nat) (w : World) (h0 : 128 ≤ mtu) (h1 : mtu ≤ 1500) (h : 200 < len) :
    Calls Try.prog 6 #[.int .i64 mtu, .slice a len cap] w fun e w' => e = .returned (.bool true) ∧ Below w.heap.size w w' := by
  have d1 : decide (mtu < 128) = false := by simp; omega
  have d2 : decide (1500 < mtu) = false := by simp; omega
  have d3 : decide (200 < (len : Int)) = true := by simp; omega
  clear h
  go_enter Try.func6, Try.ntmps6
  go_wp2_with fail
  refine (works_any w).mono ?_
  rintro e w1 ⟨rfl, ht1⟩
  have HT1 := Lib.hid ht1
  clear ht1
  go_wp2
  go_ret
  exact ⟨rfl, HT1.out.below (Nat.le_refl _) (by simp)⟩

theorem windowAvoids_walk (mtu : Int) (a : Option Addr) (len cap : Nat) (zs : List Int) (w : World) (w1 : (Lit.int .i64 mtu).wf = true) (hz : IsRow .u16 w a len cap zs) :
    Calls Try.prog 6 #[.int .i64 mtu, .slice a len cap] w fun e w' => e = .returned (.bool true) ∧ Below w.heap.size w w' := by
  by_cases m0 : 128 ≤ mtu
  · by_cases m1 : mtu ≤ 1500
    · by_cases hl : len ≤ 200
      · exact wavoidsF mtu a len cap _ w m0 m1 hz.nums.1 hl
      · exact wavoids3 mtu a len cap w m0 m1 (by omega)
    · exact wavoids2 mtu a len cap w (by omega)
  · exact wavoids1 mtu a len cap w (by omega)
end Go.Proofs.Ytnjiamngmlobeaa
