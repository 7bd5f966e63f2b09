/-
  The walk of RtoBounds. Written by genrtbounds.py.
-/
import Derived.Test.YtnngbckahkalhaaRtWk
import Derived.Test.YtnngbckahkalhaaRtOps
import Derived.Deep.Cut
namespace Go.Proofs.Ytnngbckahkalhaa
open Go.RowKit
set_option linter.unusedVariables false

set_option maxRecDepth 100000 in
set_option maxHeartbeats 6400000 in
theorem boundsF (first lo hi : Int) (a : Option Addr) (len cap : Nat) (ss : List (Bool × Int)) (w : World) (htk : takes first lo hi = true) (hz : OpRow w a len ss) (hlen : len ≤ 500) :
    Calls Try.prog 4 #[.int .i64 first, .int .i64 lo, .int .i64 hi, .slice a len cap] w fun e w' => e = .returned (.bool true) ∧ Below w.heap.size w w' := by
  have hn := new_yes w first lo hi htk
  obtain ⟨h1, h2, h3, h4⟩ := takes_iff.1 htk
  clear htk
  have d1 : decide (500 < (len : Int)) = false := by simp; omega
  obtain ⟨g, hg⟩ : ∃ g, g = w.heap.size := ⟨_, rfl⟩
  rw [← hg] at hn
  have HGG := Lib.hid hg
  have HZ := Lib.hid hz
  clear hg hz
  go_enter Try.func4, Try.ntmps4
  go_wp2_with fail
  refine hn.mono ?_
  rintro e wa ⟨rfl, hs1, ht1, _⟩
  have HT1 := Lib.hid ht1
  have HS1 := Lib.hid hs1
  clear hs1 ht1 hn
  go_wp2
  go_loopw [11, 12, 13, 14] (fun x y1 y2 y3 wr => ∃ (i : Nat) (v : Int) (any : Bool) (S V : Int), i ≤ len ∧ x = .int .i64 (i : Int) ∧ Est 44 wr g v lo hi any S V ∧ Turn [] w wr) (fun x _ _ _ _ => len - (intOf x).toNat)
  case atStart => exact ⟨0, first, false, 0, 0, by omega, rfl, HS1.out, HT1.out⟩
  case round =>
    obtain ⟨i, v, any, S, V, hi', rfl, hs, hT⟩ := hrel
    have HT := Lib.hid hT
    by_cases hil : i < len
    · obtain ⟨⟨bk, t⟩, hzi⟩ : ∃ z, ss[i]? = some z := ⟨ss[i]'(by rw [HZ.out.1]; exact hil), by simp [HZ.out.1, hil]⟩
      obtain ⟨hwt, gl, off, rfl, hgl, hc0, hc1⟩ := HZ.out.2 i _ hzi
      simp only at hwt hc0 hc1
      replace hc0 := (hT.cell (p := ⟨gl, off + i * 2, none⟩) hgl (by simp)).trans hc0
      replace hc1 := (hT.cell (p := ⟨gl, off + i * 2 + 1, none⟩) hgl (by simp)).trans hc1
      have hgw : gl < wr.heap.size := Nat.lt_of_lt_of_le hgl hT.size
      have hglg : gl ≠ g := by have := HGG.out; omega
      have HH := Lib.hid hzi
      clear hT hzi
      obtain ⟨a1, a2, a3, a4, a5, a6, a7, a8⟩ := hs.good
      have hv := value_any wr g v lo hi any S V hs
      cases bk
      · -- a sample
        by_cases ht0 : t < 0
        · have d2 : decide (t < 0) = true := by simpa using ht0
          have d3 : decide (0 ≤ t) = false := by simp; omega
          have hsm := sample_neg wr g t ht0
          have d4 : decide (v < lo) = false := by simp; omega
          have d5 : decide (hi < v) = false := by simp; omega
          have hvn := hv
          have HS := Lib.hid hs
          clear ht0 hs
          obtain ⟨so, sb, hso⟩ : ∃ so sb, Calls Try.prog 16 #[.pointer (some ⟨g, 0, none⟩)] wr fun e w' => e = .returned (.tuple #[.int .i64 so, .bool sb]) ∧ wr = w' := by
            cases any
            · exact ⟨_, _, smooth_no wr g v lo hi S V HS.out⟩
            · exact ⟨_, _, smooth_yes wr g v lo hi S V HS.out⟩
          go_wp2_with fail
          refine hv.mono ?_
          rintro e w' ⟨rfl, rfl⟩
          clear hv
          go_wp2_with fail
          refine hsm.mono ?_
          rintro e w' ⟨rfl, rfl⟩
          clear hsm
          go_wp2_with fail
          refine hso.mono ?_
          rintro e w' ⟨rfl, rfl⟩
          clear hso
          go_wp2_with fail
          refine hvn.mono ?_
          rintro e w' ⟨rfl, rfl⟩
          go_wp2_with fail
          refine hvn.mono ?_
          rintro e w' ⟨rfl, rfl⟩
          clear hvn
          go_wp2
          go_roundw
          case rel => exact ⟨i + 1, _, _, _, _, by omega, by go_num, HS.out, HT.out⟩
          case measure => simp [intOf]; omega
        · have d2 : decide (t < 0) = false := by simpa using ht0
          have d3 : decide (0 ≤ t) = true := by simp; omega
          have hsm := sample_any wr g v lo hi any S V t hs (by omega)
          have hng := (hs.good.sample (t := min t 1048576) (by omega) (by omega))
          generalize nS any S (min t 1048576) = Sn at *
          generalize nV any S V (min t 1048576) = Vn at *
          obtain ⟨vn, hvv⟩ : ∃ vn, vn = nX Sn Vn lo hi := ⟨_, rfl⟩
          have hvx : vn = min (max (Sn / 8 + max 1 Vn) lo) hi := by rw [hvv]; unfold nX lim; rfl
          rw [← hvv] at hsm hng
          clear hvv
          have b1 : 0 ≤ Sn / 8 ∧ Sn / 8 ≤ 1048576 := by have := hng.s0; have := hng.s1; omega
          have d4 : decide (vn < lo) = false := by have := hng.lx; simp; omega
          have d5 : decide (hi < vn) = false := by have := hng.xh; simp; omega
          have d6 : decide (Sn / 8 < 0) = false := by simp; omega
          have d7 : decide (1048576 < Sn / 8) = false := by simp; omega
          have d8 : decide (vn < min (Sn / 8) hi) = false := by rw [decide_eq_false_iff_not]; omega
          clear ht0 hs hng hvx a2 a3 a5 a6 a7 a8
          go_wp2_with fail
          refine hv.mono ?_
          rintro e w' ⟨rfl, rfl⟩
          clear hv
          go_wp2_with fail
          refine hsm.mono ?_
          rintro e wn ⟨rfl, hsn, htn⟩
          have HTn := Lib.hid (HT.out.over htn (by have := HGG.out; intro j hj; simp at hj; omega))
          have d9 : wn.cell? ⟨gl, off + i * 2 + 1, none⟩ = some (.int .i64 t) := (htn.cell (p := ⟨gl, off + i * 2 + 1, none⟩) hgw (by simpa using hglg)).trans hc1
          have hso := smooth_yes wn g vn lo hi Sn Vn hsn
          have hvn := value_any wn g vn lo hi true Sn Vn hsn
          have HSn := Lib.hid hsn
          clear hsm hsn htn
          go_wp2_with fail
          refine hso.mono ?_
          rintro e w' ⟨rfl, rfl⟩
          clear hso
          go_wp2_with fail
          refine hvn.mono ?_
          rintro e w' ⟨rfl, rfl⟩
          go_wp2_with fail
          refine hvn.mono ?_
          rintro e w' ⟨rfl, rfl⟩
          go_wp2_with fail
          refine hvn.mono ?_
          rintro e w' ⟨rfl, rfl⟩
          clear hvn
          go_wp2
          go_roundw
          case rel => exact ⟨i + 1, _, _, _, _, by omega, by go_num, HSn.out, HTn.out⟩
          case measure => simp [intOf]; omega
      · -- the value doubled
        have hbk := back_any wr g v lo hi any S V hs
        have HBK := Lib.hid hbk
        clear hs hbk a5 a6 a7 a8
        by_cases hcase : 2 * v ≤ hi
        · have hbk := HBK.out
          rw [show min (2 * v) hi = (2 * v) by omega] at hbk
          have d4 : decide ((2 * v) < lo) = false := by simp only [decide_eq_false_iff_not]; omega
          have d5 : decide (hi < (2 * v)) = false := by simp only [decide_eq_false_iff_not]; omega
          have d6 : decide ((2 * v) < v) = false := by simp only [decide_eq_false_iff_not]; omega
          have d7 : decide (2 * v < (2 * v)) = false := by simp only [decide_eq_false_iff_not]; omega
          have d8 : ((2 * v) == 2 * v) = true := by simp; try omega
          clear HBK hcase
          go_wp2_with fail
          refine hv.mono ?_
          rintro e w' ⟨rfl, rfl⟩
          clear hv
          go_wp2_with fail
          refine hbk.mono ?_
          rintro e wn ⟨rfl, hsn, htn⟩
          have HTn := Lib.hid (HT.out.over htn (by have := HGG.out; intro j hj; simp at hj; omega))
          have hvn := value_any wn g (2 * v) lo hi any S V hsn
          have HSn := Lib.hid hsn
          clear hbk hsn htn
          go_wp2_with fail
          refine hvn.mono ?_
          rintro e w' ⟨rfl, rfl⟩
          go_wp2_with fail
          refine hvn.mono ?_
          rintro e w' ⟨rfl, rfl⟩
          go_wp2_with fail
          refine hvn.mono ?_
          rintro e w' ⟨rfl, rfl⟩
          go_wp2_with fail
          refine hvn.mono ?_
          rintro e w' ⟨rfl, rfl⟩
          go_wp2_with fail
          refine hvn.mono ?_
          rintro e w' ⟨rfl, rfl⟩
          clear hvn
          go_wp2
          go_roundw
          case rel => exact ⟨i + 1, _, _, _, _, by omega, by go_num, HSn.out, HTn.out⟩
          case measure => simp [intOf]; omega
        · have hbk := HBK.out
          rw [show min (2 * v) hi = hi by omega] at hbk
          have d4 : decide (hi < lo) = false := by simp only [decide_eq_false_iff_not]; omega
          have d5 : decide (hi < hi) = false := by simp only [decide_eq_false_iff_not]; omega
          have d6 : decide (hi < v) = false := by simp only [decide_eq_false_iff_not]; omega
          have d7 : decide (2 * v < hi) = false := by simp only [decide_eq_false_iff_not]; omega
          have d8 : (hi == 2 * v) = false := by simp; try omega
          clear HBK
          go_wp2_with fail
          refine hv.mono ?_
          rintro e w' ⟨rfl, rfl⟩
          clear hv
          go_wp2_with fail
          refine hbk.mono ?_
          rintro e wn ⟨rfl, hsn, htn⟩
          have HTn := Lib.hid (HT.out.over htn (by have := HGG.out; intro j hj; simp at hj; omega))
          have hvn := value_any wn g hi lo hi any S V hsn
          have HSn := Lib.hid hsn
          clear hbk hsn htn
          go_wp2_with fail
          refine hvn.mono ?_
          rintro e w' ⟨rfl, rfl⟩
          go_wp2_with fail
          refine hvn.mono ?_
          rintro e w' ⟨rfl, rfl⟩
          go_wp2_with fail
          refine hvn.mono ?_
          rintro e w' ⟨rfl, rfl⟩
          go_wp2_with fail
          refine hvn.mono ?_
          rintro e w' ⟨rfl, rfl⟩
          go_wp2_with fail
          refine hvn.mono ?_
          rintro e w' ⟨rfl, rfl⟩
          go_wp2_with fail
          refine hvn.mono ?_
          rintro e w' ⟨rfl, rfl⟩
          clear hvn
          go_wp2
          go_roundw
          case rel => exact ⟨i + 1, _, _, _, _, by omega, by go_num, HSn.out, HTn.out⟩
          case measure => simp [intOf]; omega
    · obtain rfl : len = i := by omega
      clear hT hs
      go_wp2_with fail
      refine (works_any wr).mono ?_
      rintro e w6 ⟨rfl, ht6⟩
      have HT6 := Lib.hid (HT.out.trans ht6)
      clear ht6
      go_wp2
      go_ret
      exact ⟨rfl, HT6.out.below (Nat.le_refl _) (by simp)⟩

set_option maxHeartbeats 800000 in
theorem boundsL (first lo hi : Int) (a : Option Addr) (len cap : Nat) (w : World) (htk : takes first lo hi = true) (hlen : 500 < len) :
    Calls Try.prog 4 #[.int .i64 first, .int .i64 lo, .int .i64 hi, .slice a len cap] w fun e w' => e = .returned (.bool true) ∧ Below w.heap.size w w' := by
  have hn := new_yes w first lo hi htk
  have d1 : decide (500 < (len : Int)) = true := by simp; omega
  clear htk hlen
  go_enter Try.func4, Try.ntmps4
  go_wp2_with fail
  refine hn.mono ?_
  rintro e wb ⟨rfl, _, ht2, _⟩
  have HT := Lib.hid ht2
  clear hn ht2
  go_wp2_with fail
  refine (works_any wb).mono ?_
  rintro e w1 ⟨rfl, ht1⟩
  have HT1 := Lib.hid (HT.out.trans ht1)
  clear ht1
  go_wp2
  go_ret
  exact ⟨rfl, HT1.out.below (Nat.le_refl _) (by simp)⟩
set_option maxHeartbeats 800000 in
theorem boundsN (first lo hi : Int) (a : Option Addr) (len cap : Nat) (w : World) (htk : takes first lo hi = false) :
    Calls Try.prog 4 #[.int .i64 first, .int .i64 lo, .int .i64 hi, .slice a len cap] w fun e w' => e = .returned (.bool true) ∧ Below w.heap.size w w' := by
  have hn := new_no w first lo hi htk
  clear htk
  go_enter Try.func4, Try.ntmps4
  go_wp2_with fail
  refine hn.mono ?_
  rintro e w' ⟨rfl, rfl⟩
  clear hn
  go_wp2_with fail
  refine (works_any w).mono ?_
  rintro e w1 ⟨rfl, ht1⟩
  go_wp2
  go_ret
  exact ⟨rfl, ht1.below (Nat.le_refl _) (by simp)⟩

theorem rtoBounds_walk (first lo hi : Int) (a : Option Addr) (len cap : Nat) (ss : List (Bool × Int)) (w : World) (w1 : (Lit.int .i64 first).wf = true) (w2 : (Lit.int .i64 lo).wf = true) (w3 : (Lit.int .i64 hi).wf = true) (hz : IsOps w a len cap ss) :
    Calls Try.prog 4 #[.int .i64 first, .int .i64 lo, .int .i64 hi, .slice a len cap] w fun e w' => e = .returned (.bool true) ∧ Below w.heap.size w w' := by
  cases htk : takes first lo hi
  · exact boundsN first lo hi a len cap w htk
  · by_cases hl : len ≤ 500
    · exact boundsF first lo hi a len cap _ w htk hz.1 hl
    · exact boundsL first lo hi a len cap w htk (by omega)
end Go.Proofs.Ytnngbckahkalhaa
