/-
  The walk of WindowBounds.
-/
import Derived.Test.YtnjiamngmlobeaaWnDo
import Derived.Test.YtnjiamngmlobeaaWnOps
import Derived.Deep.Cut
namespace Go.Proofs.Ytnjiamngmlobeaa
open Go.RowKit
set_option linter.unusedVariables false
set_option linter.unusedSimpArgs false

set_option maxRecDepth 10000 in
set_option maxHeartbeats 12800000 in
theorem wboundsF (mtu last : Int) (a : Option Addr) (len cap : Nat) (ss : List (Int × Int × Bool)) (w : World) (htk : wtakes mtu last = true) (hz : WOpRow w a len ss) (hlen : len ≤ 500) :
    Calls Try.prog 4 #[.int .i64 mtu, .int .i64 last, .slice a len cap] w fun e w' => e = .returned (.bool true) ∧ Below w.heap.size w w' := by
  have hn := wnew_yes w mtu last 0 htk
  clear htk
  have d1 : decide (500 < (len : Int)) = false := by simp; omega
  obtain ⟨g, hg⟩ : ∃ g, g = w.heap.size := ⟨_, rfl⟩
  rw [← hg] at hn
  have HGG := Lib.hid hg
  clear hg
  have HZ := Lib.hid hz
  clear hz
  go_enter Try.func4, Try.ntmps4
  go_wp2_with fail
  refine hn.mono ?_
  rintro e wa ⟨rfl, hs1, ht1, _⟩
  have HS1 := Lib.hid (And.intro hs1 ht1)
  clear hn hs1 ht1
  go_wp2
  go_loopw [9, 10, 11, 80, 114, 127] (fun x _ _ _ _ _ wr => ∃ (kx : Nat) (size thr part : Int), kx ≤ len ∧ x = .int .i64 (kx : Int) ∧ Wn 45 wr g mtu last size thr part kx ∧ Turn [] w wr) (fun x _ _ _ _ _ _ => len - (intOf x).toNat)
  case atStart => exact ⟨0, _, _, _, by omega, rfl, HS1.out.1, HS1.out.2⟩
  case round =>
    obtain ⟨kx, size, thr, part, hi', rfl, hs0, hT⟩ := hrel
    have HT := Lib.hid hT
    by_cases hil : kx < len
    · obtain ⟨⟨kind, n, full⟩, hzi⟩ : ∃ z, ss[kx]? = some z := ⟨ss[kx]'(by rw [HZ.out.1]; exact hil), by simp [HZ.out.1, hil]⟩
      obtain ⟨gl, off, rfl, hgl, hc0, hc1, hc2⟩ := HZ.out.2 kx _ hzi
      simp only at hc0 hc1 hc2
      replace hc0 := (hT.cell (p := ⟨gl, off + kx * 3, none⟩) hgl (by simp)).trans hc0
      replace hc1 := (hT.cell (p := ⟨gl, off + kx * 3 + 1, none⟩) hgl (by simp)).trans hc1
      replace hc2 := (hT.cell (p := ⟨gl, off + kx * 3 + 2, none⟩) hgl (by simp)).trans hc2
      have HGW := Lib.hid (show gl < wr.heap.size ∧ gl ∉ [g] from ⟨Nat.lt_of_lt_of_le hgl hT.size, by have := HGG.out; simp; omega⟩)
      have hd := wdoes_any wr g mtu last size thr part kx kind n full (by omega) hs0
      have hv1 := wsize_any wr g _ _ _ _ _ _ hs0
      have hv2 := wthr_any wr g _ _ _ _ _ _ hs0
      have HH := Lib.hid (And.intro hzi hgl)
      have hgd := hs0.good
      clear hT hzi hgl hs0
      by_cases k0 : kind = 0
      · subst k0
        have hak := hgd.acked n full
        have e1 : dS mtu last size thr part 0 n full = akS mtu last size thr part n full := rfl
        have e2 : dT mtu size thr 0 = thr := rfl
        rw [e1, e2] at hd
        clear e1 e2
        generalize akS mtu last size thr part n full = S' at *
        obtain ⟨hg', q1, q2, q3⟩ := hak
        have q4 := hg'.s0
        have q5 := hg'.s1
        obtain ⟨a1, a2, a3, a4, a5, a6, a7, a8, a9, a10⟩ := hgd
        cases full
        · obtain rfl := q3 rfl
          have d2 : decide (S' < mtu) = false := by simp only [decide_eq_false_iff_not]; omega
          have d3 : decide (last < S') = false := by simp only [decide_eq_false_iff_not]; omega
          have d4 : decide (thr < 4 * mtu) = false := by simp only [decide_eq_false_iff_not]; omega
          have d5 : decide (last < thr) = false := by simp only [decide_eq_false_iff_not]; omega
          have d6 : decide (S' + mtu < S') = false := by simp only [decide_eq_false_iff_not]; omega
          have d7 : decide (S' < S') = false := by simp only [decide_eq_false_iff_not]; omega
          clear hg' q1 q2 q3 q4 q5 a7 a8 a9 a10
          generalize dP last S' thr part 0 n false = P' at hd
          clear HH
          go_wp2_with fail
          refine hv1.mono ?_
          rintro e w' ⟨rfl, rfl⟩
          go_wp2_with fail
          refine hv2.mono ?_
          rintro e w' ⟨rfl, rfl⟩
          clear hv1 hv2
          go_wp2_with fail
          refine hd.mono ?_
          rintro e wc ⟨rfl, hsc, htc⟩
          replace hc0 := (htc.cell (p := ⟨gl, off + kx * 3, none⟩) HGW.out.1 HGW.out.2).trans hc0
          replace hc1 := (htc.cell (p := ⟨gl, off + kx * 3 + 1, none⟩) HGW.out.1 HGW.out.2).trans hc1
          replace hc2 := (htc.cell (p := ⟨gl, off + kx * 3 + 2, none⟩) HGW.out.1 HGW.out.2).trans hc2
          have HC := Lib.hid (And.intro hsc (HT.out.over htc (by have := HGG.out; intro j hj; simp at hj; omega)))
          have hs := wsize_any wc g _ _ _ _ _ _ hsc
          have ht := wthr_any wc g _ _ _ _ _ _ hsc
          clear hd hsc htc
          go_wp2_with fail
          refine hs.mono ?_
          rintro e w' ⟨rfl, rfl⟩
          go_wp2_with fail
          refine hs.mono ?_
          rintro e w' ⟨rfl, rfl⟩
          go_wp2_with fail
          refine ht.mono ?_
          rintro e w' ⟨rfl, rfl⟩
          go_wp2_with fail
          refine ht.mono ?_
          rintro e w' ⟨rfl, rfl⟩
          go_wp2_with fail
          refine hs.mono ?_
          rintro e w' ⟨rfl, rfl⟩
          go_wp2_with fail
          refine hs.mono ?_
          rintro e w' ⟨rfl, rfl⟩
          go_wp2_with fail
          refine ht.mono ?_
          rintro e w' ⟨rfl, rfl⟩
          go_wp2_with fail
          refine hs.mono ?_
          rintro e w' ⟨rfl, rfl⟩
          clear hs ht
          go_wp2
          go_roundw
          case rel => exact ⟨kx + 1, _, _, _, by omega, by go_num, HC.out.1, HC.out.2⟩
          case measure => simp [intOf]; omega
        · have d2 : decide (S' < mtu) = false := by simp only [decide_eq_false_iff_not]; omega
          have d3 : decide (last < S') = false := by simp only [decide_eq_false_iff_not]; omega
          have d4 : decide (thr < 4 * mtu) = false := by simp only [decide_eq_false_iff_not]; omega
          have d5 : decide (last < thr) = false := by simp only [decide_eq_false_iff_not]; omega
          have d6 : decide (size + mtu < S') = false := by simp only [decide_eq_false_iff_not]; omega
          have d7 : decide (S' < size) = false := by simp only [decide_eq_false_iff_not]; omega
          clear hg' q1 q2 q3 q4 q5 a7 a8 a9 a10
          generalize dP last size thr part 0 n true = P' at hd
          clear HH
          go_wp2_with fail
          refine hv1.mono ?_
          rintro e w' ⟨rfl, rfl⟩
          go_wp2_with fail
          refine hv2.mono ?_
          rintro e w' ⟨rfl, rfl⟩
          clear hv1 hv2
          go_wp2_with fail
          refine hd.mono ?_
          rintro e wc ⟨rfl, hsc, htc⟩
          replace hc0 := (htc.cell (p := ⟨gl, off + kx * 3, none⟩) HGW.out.1 HGW.out.2).trans hc0
          replace hc1 := (htc.cell (p := ⟨gl, off + kx * 3 + 1, none⟩) HGW.out.1 HGW.out.2).trans hc1
          replace hc2 := (htc.cell (p := ⟨gl, off + kx * 3 + 2, none⟩) HGW.out.1 HGW.out.2).trans hc2
          have HC := Lib.hid (And.intro hsc (HT.out.over htc (by have := HGG.out; intro j hj; simp at hj; omega)))
          have hs := wsize_any wc g _ _ _ _ _ _ hsc
          have ht := wthr_any wc g _ _ _ _ _ _ hsc
          clear hd hsc htc
          go_wp2_with fail
          refine hs.mono ?_
          rintro e w' ⟨rfl, rfl⟩
          go_wp2_with fail
          refine hs.mono ?_
          rintro e w' ⟨rfl, rfl⟩
          go_wp2_with fail
          refine ht.mono ?_
          rintro e w' ⟨rfl, rfl⟩
          go_wp2_with fail
          refine ht.mono ?_
          rintro e w' ⟨rfl, rfl⟩
          go_wp2_with fail
          refine hs.mono ?_
          rintro e w' ⟨rfl, rfl⟩
          go_wp2_with fail
          refine hs.mono ?_
          rintro e w' ⟨rfl, rfl⟩
          go_wp2_with fail
          refine ht.mono ?_
          rintro e w' ⟨rfl, rfl⟩
          clear hs ht
          go_wp2
          go_roundw
          case rel => exact ⟨kx + 1, _, _, _, by omega, by go_num, HC.out.1, HC.out.2⟩
          case measure => simp [intOf]; omega
      · by_cases k1 : kind = 1
        · subst k1
          have e1 : dS mtu last size thr part 1 n full = min size (wT mtu size) := rfl
          have e2 : dT mtu size thr 1 = wT mtu size := rfl
          rw [e1, e2] at hd
          clear e1 e2
          have hg' := hgd.fast 0
          generalize wT mtu size = T' at *
          have q4 := hg'.s0
          have q5 := hg'.s1
          have q6 := hg'.t0
          have q7 := hg'.t1
          obtain ⟨a1, a2, a3, a4, a5, a6, a7, a8, a9, a10⟩ := hgd
          obtain ⟨S', hS⟩ : ∃ S', S' = min size T' := ⟨_, rfl⟩
          rw [← hS] at hd q4 q5
          have d2 : decide (S' < mtu) = false := by simp only [decide_eq_false_iff_not]; omega
          have d3 : decide (last < S') = false := by simp only [decide_eq_false_iff_not]; omega
          have d4 : decide (T' < 4 * mtu) = false := by simp only [decide_eq_false_iff_not]; omega
          have d5 : decide (last < T') = false := by simp only [decide_eq_false_iff_not]; omega
          have d6 : decide (size < S') = false := by simp only [decide_eq_false_iff_not]; omega
          have d7 : decide (T' < S') = false := by simp only [decide_eq_false_iff_not]; omega
          clear hS
          clear hg' q4 q5 q6 q7 a7 a8 a9 a10 k0
          generalize dP last size thr part 1 n full = P' at hd
          clear HH
          go_wp2_with fail
          refine hv1.mono ?_
          rintro e w' ⟨rfl, rfl⟩
          go_wp2_with fail
          refine hv2.mono ?_
          rintro e w' ⟨rfl, rfl⟩
          clear hv1 hv2
          go_wp2_with fail
          refine hd.mono ?_
          rintro e wc ⟨rfl, hsc, htc⟩
          replace hc0 := (htc.cell (p := ⟨gl, off + kx * 3, none⟩) HGW.out.1 HGW.out.2).trans hc0
          replace hc1 := (htc.cell (p := ⟨gl, off + kx * 3 + 1, none⟩) HGW.out.1 HGW.out.2).trans hc1
          replace hc2 := (htc.cell (p := ⟨gl, off + kx * 3 + 2, none⟩) HGW.out.1 HGW.out.2).trans hc2
          have HC := Lib.hid (And.intro hsc (HT.out.over htc (by have := HGG.out; intro j hj; simp at hj; omega)))
          have hs := wsize_any wc g _ _ _ _ _ _ hsc
          have ht := wthr_any wc g _ _ _ _ _ _ hsc
          clear hd hsc htc
          go_wp2_with fail
          refine hs.mono ?_
          rintro e w' ⟨rfl, rfl⟩
          go_wp2_with fail
          refine hs.mono ?_
          rintro e w' ⟨rfl, rfl⟩
          go_wp2_with fail
          refine ht.mono ?_
          rintro e w' ⟨rfl, rfl⟩
          go_wp2_with fail
          refine ht.mono ?_
          rintro e w' ⟨rfl, rfl⟩
          go_wp2_with fail
          refine hs.mono ?_
          rintro e w' ⟨rfl, rfl⟩
          go_wp2_with fail
          refine hs.mono ?_
          rintro e w' ⟨rfl, rfl⟩
          go_wp2_with fail
          refine ht.mono ?_
          rintro e w' ⟨rfl, rfl⟩
          clear hs ht
          go_wp2
          go_roundw
          case rel => exact ⟨kx + 1, _, _, _, by omega, by go_num, HC.out.1, HC.out.2⟩
          case measure => simp [intOf]; omega
        · by_cases k2 : kind = 2
          · subst k2
            have e1 : dS mtu last size thr part 2 n full = mtu := rfl
            have e2 : dT mtu size thr 2 = wT mtu size := rfl
            rw [e1, e2] at hd
            clear e1 e2
            have hg' := hgd.timeout 0
            generalize wT mtu size = T' at *
            have q4 := hg'.s0
            have q5 := hg'.s1
            have q6 := hg'.t0
            have q7 := hg'.t1
            obtain ⟨a1, a2, a3, a4, a5, a6, a7, a8, a9, a10⟩ := hgd
            have d2 : decide (mtu < mtu) = false := by simp only [decide_eq_false_iff_not]; omega
            have d3 : decide (last < mtu) = false := by simp only [decide_eq_false_iff_not]; omega
            have d4 : decide (T' < 4 * mtu) = false := by simp only [decide_eq_false_iff_not]; omega
            have d5 : decide (last < T') = false := by simp only [decide_eq_false_iff_not]; omega
            clear hg' q4 q5 q6 q7 a7 a8 a9 a10 k0 k1
            generalize dP last size thr part 2 n full = P' at hd
            clear HH
            go_wp2_with fail
            refine hv1.mono ?_
            rintro e w' ⟨rfl, rfl⟩
            go_wp2_with fail
            refine hv2.mono ?_
            rintro e w' ⟨rfl, rfl⟩
            clear hv1 hv2
            go_wp2_with fail
            refine hd.mono ?_
            rintro e wc ⟨rfl, hsc, htc⟩
            replace hc0 := (htc.cell (p := ⟨gl, off + kx * 3, none⟩) HGW.out.1 HGW.out.2).trans hc0
            replace hc1 := (htc.cell (p := ⟨gl, off + kx * 3 + 1, none⟩) HGW.out.1 HGW.out.2).trans hc1
            replace hc2 := (htc.cell (p := ⟨gl, off + kx * 3 + 2, none⟩) HGW.out.1 HGW.out.2).trans hc2
            have HC := Lib.hid (And.intro hsc (HT.out.over htc (by have := HGG.out; intro j hj; simp at hj; omega)))
            have hs := wsize_any wc g _ _ _ _ _ _ hsc
            have ht := wthr_any wc g _ _ _ _ _ _ hsc
            clear hd hsc htc
            go_wp2_with fail
            refine hs.mono ?_
            rintro e w' ⟨rfl, rfl⟩
            go_wp2_with fail
            refine hs.mono ?_
            rintro e w' ⟨rfl, rfl⟩
            go_wp2_with fail
            refine ht.mono ?_
            rintro e w' ⟨rfl, rfl⟩
            go_wp2_with fail
            refine ht.mono ?_
            rintro e w' ⟨rfl, rfl⟩
            go_wp2_with fail
            refine hs.mono ?_
            rintro e w' ⟨rfl, rfl⟩
            clear hs ht
            go_wp2
            go_roundw
            case rel => exact ⟨kx + 1, _, _, _, by omega, by go_num, HC.out.1, HC.out.2⟩
            case measure => simp [intOf]; omega
          · have b0 : (kind == 0) = false := by simpa using k0
            have b1 : (kind == 1) = false := by simpa using k1
            have b2 : (kind == 2) = false := by simpa using k2
            have e1 : dS mtu last size thr part kind n full = size := by simp only [dS, if_neg k0, if_neg k1, if_neg k2]
            have e2 : dT mtu size thr kind = thr := by simp only [dT, if_neg (show ¬ (kind = 1 ∨ kind = 2) by omega)]
            rw [e1, e2] at hd
            clear e1 e2
            obtain ⟨a1, a2, a3, a4, a5, a6, a7, a8, a9, a10⟩ := hgd
            have d2 : decide (size < mtu) = false := by simp only [decide_eq_false_iff_not]; omega
            have d3 : decide (last < size) = false := by simp only [decide_eq_false_iff_not]; omega
            have d4 : decide (thr < 4 * mtu) = false := by simp only [decide_eq_false_iff_not]; omega
            have d5 : decide (last < thr) = false := by simp only [decide_eq_false_iff_not]; omega
            clear k0 k1 k2 a7 a8 a9 a10
            generalize dP last size thr part kind n full = P' at hd
            clear HH
            go_wp2_with fail
            refine hv1.mono ?_
            rintro e w' ⟨rfl, rfl⟩
            go_wp2_with fail
            refine hv2.mono ?_
            rintro e w' ⟨rfl, rfl⟩
            clear hv1 hv2
            go_wp2_with fail
            refine hd.mono ?_
            rintro e wc ⟨rfl, hsc, htc⟩
            replace hc0 := (htc.cell (p := ⟨gl, off + kx * 3, none⟩) HGW.out.1 HGW.out.2).trans hc0
            replace hc1 := (htc.cell (p := ⟨gl, off + kx * 3 + 1, none⟩) HGW.out.1 HGW.out.2).trans hc1
            replace hc2 := (htc.cell (p := ⟨gl, off + kx * 3 + 2, none⟩) HGW.out.1 HGW.out.2).trans hc2
            have HC := Lib.hid (And.intro hsc (HT.out.over htc (by have := HGG.out; intro j hj; simp at hj; omega)))
            have hs := wsize_any wc g _ _ _ _ _ _ hsc
            have ht := wthr_any wc g _ _ _ _ _ _ hsc
            clear hd hsc htc
            go_wp2_with fail
            refine hs.mono ?_
            rintro e w' ⟨rfl, rfl⟩
            go_wp2_with fail
            refine hs.mono ?_
            rintro e w' ⟨rfl, rfl⟩
            go_wp2_with fail
            refine ht.mono ?_
            rintro e w' ⟨rfl, rfl⟩
            go_wp2_with fail
            refine ht.mono ?_
            rintro e w' ⟨rfl, rfl⟩
            go_wp2_with fail
            refine hs.mono ?_
            rintro e w' ⟨rfl, rfl⟩
            go_wp2_with fail
            refine ht.mono ?_
            rintro e w' ⟨rfl, rfl⟩
            clear hs ht
            go_wp2
            go_roundw
            case rel => exact ⟨kx + 1, _, _, _, by omega, by go_num, HC.out.1, HC.out.2⟩
            case measure => simp [intOf]; omega
    · obtain rfl : len = kx := by omega
      clear hT hs0
      go_wp2_with fail
      refine (works_any wr).mono ?_
      rintro e w6 ⟨rfl, ht6⟩
      have HT6 := Lib.hid (HT.out.trans ht6)
      clear ht6
      go_wp2
      go_ret
      exact ⟨rfl, HT6.out.below (Nat.le_refl _) (by simp)⟩

set_option maxHeartbeats 800000 in
theorem wboundsL (mtu last : Int) (a : Option Addr) (len cap : Nat) (w : World) (htk : wtakes mtu last = true) (hlen : 500 < len) :
    Calls Try.prog 4 #[.int .i64 mtu, .int .i64 last, .slice a len cap] w fun e w' => e = .returned (.bool true) ∧ Below w.heap.size w w' := by
  have hn := wnew_yes w mtu last 0 htk
  have d1 : decide (500 < (len : Int)) = true := by simp; omega
  clear htk hlen
  go_enter Try.func4, Try.ntmps4
  go_wp2_with fail
  refine hn.mono ?_
  rintro e wa ⟨rfl, _, ht1, _⟩
  have HT := Lib.hid ht1
  clear hn ht1
  go_wp2_with fail
  refine (works_any wa).mono ?_
  rintro e w6 ⟨rfl, ht6⟩
  have HT6 := Lib.hid (HT.out.trans ht6)
  clear ht6
  go_wp2
  go_ret
  exact ⟨rfl, HT6.out.below (Nat.le_refl _) (by simp)⟩
set_option maxHeartbeats 800000 in
theorem wboundsN (mtu last : Int) (a : Option Addr) (len cap : Nat) (w : World) (htk : wtakes mtu last = false) :
    Calls Try.prog 4 #[.int .i64 mtu, .int .i64 last, .slice a len cap] w fun e w' => e = .returned (.bool true) ∧ Below w.heap.size w w' := by
  have hn := wnew_no w mtu last htk
  clear htk
  go_enter Try.func4, Try.ntmps4
  go_wp2_with fail
  refine hn.mono ?_
  rintro e w' ⟨rfl, rfl⟩
  clear hn
  go_wp2_with fail
  refine (works_any w).mono ?_
  rintro e w6 ⟨rfl, ht6⟩
  have HT6 := Lib.hid ((Turn.refl [] w).trans ht6)
  clear ht6
  go_wp2
  go_ret
  exact ⟨rfl, HT6.out.below (Nat.le_refl _) (by simp)⟩

theorem windowBounds_walk (mtu last : Int) (a : Option Addr) (len cap : Nat) (ss : List (Int × Int × Bool)) (w : World) (w1 : (Lit.int .i64 mtu).wf = true) (w2 : (Lit.int .i64 last).wf = true) (hz : IsWOps w a len cap ss) :
    Calls Try.prog 4 #[.int .i64 mtu, .int .i64 last, .slice a len cap] w fun e w' => e = .returned (.bool true) ∧ Below w.heap.size w w' := by
  cases htk : wtakes mtu last
  · exact wboundsN mtu last a len cap w htk
  · by_cases hl : len ≤ 500
    · exact wboundsF mtu last a len cap _ w htk hz.1 hl
    · exact wboundsL mtu last a len cap w htk (by omega)
end Go.Proofs.Ytnjiamngmlobeaa
