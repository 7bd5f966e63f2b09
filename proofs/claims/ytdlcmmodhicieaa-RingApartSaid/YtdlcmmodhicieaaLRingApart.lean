/-
  The walk of RingApart. Written by wip/tools/genapart.py.
-/
import Derived.Test.YtdlcmmodhicieaaRingWorks
import Derived.Test.YtdlcmmodhicieaaRingTwo
import Derived.Test.YtdlcmmodhicieaaNums
namespace Go.Proofs.Ytdlcmmodhicieaa
open Go.RowKit
set_option linter.unusedVariables false

set_option maxRecDepth 100000 in
set_option maxHeartbeats 6400000 in
theorem apartF (w : World) (a0 : Option Addr) (L cap0 : Nat) (zs : List Int) (a1 : Option Addr) (M cap1 : Nat) (ys : List Int) (hz : Nums .u32 w a0 L zs) (hy : Nums .u32 w a1 M ys) (hL : L ≤ 300) (hM : M ≤ 300) :
    Calls Try.prog 7 #[.slice a0 L cap0, .slice a1 M cap1] w fun e w' => e = .returned (.bool true) ∧ Below w.heap.size w w' := by
  have HZ := Lib.hid hz
  have HZL := Lib.hid hz.1
  have HY := Lib.hid hy
  have HYL := Lib.hid hy.1
  have hl0 : decide (300 < (L : Int)) = false := by rw [decide_eq_false_iff_not]; omega
  have hm0 : decide (300 < (M : Int)) = false := by rw [decide_eq_false_iff_not]; omega
  clear hz hy
  go_enter Try.func7, Try.ntmps7
  go_wp2_with fail
  refine (new_my_u32 w.heap.size w (Nat.le_refl _) 301 (by omega) (by omega)).mono ?_
  rintro e w1 ⟨ra, ca, rfl, hr1, hb1⟩
  go_wp2_with fail
  refine (new_two w.heap.size w1 ra ca 301 0 [] hr1 301 (by omega) (by omega)).mono ?_
  rintro e w2 ⟨rb, cb, rfl, hr2, hb2⟩
  have HR1 := Lib.hid hr2
  have HB1 := Lib.hid (hb1.trans hb2)
  clear hr1 hr2 hb1 hb2
  go_wp2
  obtain ⟨h, hh⟩ : ∃ h : Nat, max L M = h := ⟨_, rfl⟩
  have hmax : (if L < M then (M : Int) else (L : Int)) = (h : Int) := by split <;> omega
  go_loopw [9] (fun t wr => ∃ i : Nat, i ≤ h ∧ t = .int .i64 i ∧ TwoRings 81 w.heap.size wr ra ca 301 (min i L) (cells32 (zs.take (min i L))) rb cb 301 (min i M) (cells32 (ys.take (min i M))) ∧ Below w.heap.size w wr) (fun t _ => h - (intOf t).toNat)
  case atStart => exact ⟨0, by omega, rfl, by simpa [cells32] using HR1.out, HB1.out⟩
  case round =>
    obtain ⟨i, hi, rfl, hr, hb⟩ := hrel
    by_cases hlt : i < h
    · have gh : (i : Int) < (h : Int) := by omega
      by_cases hL : i < L
      · by_cases hM : i < M
        · clear hh
          have hil : i < zs.length := by rw [HZL.out]; exact hL
          obtain ⟨g0, off0, rfl, hg0, hc0⟩ := (HZ.out.below hb (Nat.le_refl _)).2.2.2 i zs[i] (by simp [hil])
          have hz0 : zs[i]? = some zs[i] := by simp [hil]
          generalize zs[i] = z at *
          have gL : (i : Int) < (L : Int) := by omega
          rw [show min i L = i by omega] at hr
          have him : i < ys.length := by rw [HYL.out]; exact hM
          have hy0 : ys[i]? = some ys[i] := by simp [him]
          have gM : (i : Int) < (M : Int) := by omega
          rw [show min i M = i by omega] at hr
          have HB := Lib.hid hb
          clear hb
          have HZ0 := Lib.hid hz0
          clear hz0
          go_wp2_with fail
          refine (push_two _ _ _ _ _ _ _ _ _ _ _ _ hr z (by omega)).mono ?_
          rintro e w2 ⟨rfl, hr2, hb2⟩
          have HB2 := Lib.hid (HB.out.trans hb2)
          clear hr hb2 hc0 hg0
          obtain ⟨g1, off1, rfl, hg1, hc1⟩ := (HY.out.below HB2.out (Nat.le_refl _)).2.2.2 i ys[i] (by simp [him])
          generalize ys[i] = y at *
          have HY0 := Lib.hid hy0
          clear hy0
          go_wp2_with fail
          refine (push_two _ _ _ _ _ _ _ _ _ _ _ _ hr2.symm y (by omega)).mono ?_
          rintro e w3 ⟨rfl, hr3, hb3⟩
          have HB3 := Lib.hid (HB2.out.trans hb3)
          clear hr2 hb3 hc1 hg1
          have HR := Lib.hid hr3.symm
          clear hr3
          go_wp2
          go_roundw
          case rel =>
            refine ⟨i + 1, by omega, by go_num, ?_, HB3.out⟩
            rw [show min (i + 1) L = i + 1 by omega, show min (i + 1) M = i + 1 by omega, cells32_next HZ0.out, cells32_next HY0.out]
            exact HR.out
          case measure => simp [intOf]; omega
        · clear hh
          have hil : i < zs.length := by rw [HZL.out]; exact hL
          obtain ⟨g0, off0, rfl, hg0, hc0⟩ := (HZ.out.below hb (Nat.le_refl _)).2.2.2 i zs[i] (by simp [hil])
          have hz0 : zs[i]? = some zs[i] := by simp [hil]
          generalize zs[i] = z at *
          have gL : (i : Int) < (L : Int) := by omega
          rw [show min i L = i by omega] at hr
          have gM : decide ((i : Int) < (M : Int)) = false := by rw [decide_eq_false_iff_not]; omega
          rw [show min i M = M by omega] at hr
          have HB := Lib.hid hb
          clear hb
          have HZ0 := Lib.hid hz0
          clear hz0
          go_wp2_with fail
          refine (push_two _ _ _ _ _ _ _ _ _ _ _ _ hr z (by omega)).mono ?_
          rintro e w2 ⟨rfl, hr2, hb2⟩
          have HB2 := Lib.hid (HB.out.trans hb2)
          clear hr hb2 hc0 hg0
          have HR := Lib.hid hr2
          clear hr2
          go_wp2
          go_roundw
          case rel =>
            refine ⟨i + 1, by omega, by go_num, ?_, HB2.out⟩
            rw [show min (i + 1) L = i + 1 by omega, show min (i + 1) M = M by omega, cells32_next HZ0.out]
            exact HR.out
          case measure => simp [intOf]; omega
      · have hM : i < M := by omega
        clear hh
        have gL : decide ((i : Int) < (L : Int)) = false := by rw [decide_eq_false_iff_not]; omega
        rw [show min i L = L by omega] at hr
        have him : i < ys.length := by rw [HYL.out]; exact hM
        have hy0 : ys[i]? = some ys[i] := by simp [him]
        have gM : (i : Int) < (M : Int) := by omega
        rw [show min i M = i by omega] at hr
        have HB := Lib.hid hb
        clear hb
        obtain ⟨g1, off1, rfl, hg1, hc1⟩ := (HY.out.below HB.out (Nat.le_refl _)).2.2.2 i ys[i] (by simp [him])
        generalize ys[i] = y at *
        have HY0 := Lib.hid hy0
        clear hy0
        go_wp2_with fail
        refine (push_two _ _ _ _ _ _ _ _ _ _ _ _ hr.symm y (by omega)).mono ?_
        rintro e w3 ⟨rfl, hr3, hb3⟩
        have HB3 := Lib.hid (HB.out.trans hb3)
        clear hr hb3 hc1 hg1
        have HR := Lib.hid hr3.symm
        clear hr3
        go_wp2
        go_roundw
        case rel =>
          refine ⟨i + 1, by omega, by go_num, ?_, HB3.out⟩
          rw [show min (i + 1) L = L by omega, show min (i + 1) M = i + 1 by omega, cells32_next HY0.out]
          exact HR.out
        case measure => simp [intOf]; omega
    · obtain rfl : h = i := by omega
      have eL : zs.take (min h L) = zs := List.take_of_length_le (by rw [HZL.out]; omega)
      have eM : ys.take (min h M) = ys := List.take_of_length_le (by rw [HYL.out]; omega)
      have hr1 := hr.recast (show min h L = L by omega) (congrArg cells32 eL) (show min h M = M by omega) (congrArg cells32 eM)
      have HR := Lib.hid hr1
      have HB := Lib.hid hb
      clear hr hr1 hb hh eL eM
      go_wp2
      go_loopw [] (fun wr => ∃ (k : Nat) (fb : List Value), TwoRings 81 w.heap.size wr ra ca 301 L (cells32 zs) rb cb 301 k fb ∧ Below w.heap.size w wr) (fun wr => toks wr cb)
      case atStart => exact ⟨_, _, HR.out, HB.out⟩
      case round =>
        obtain ⟨k, fb, hr, hb⟩ := hrel
        have hlen := hr.right.len
        have hkb := hr.right.le
        have HB := Lib.hid hb
        have HR := Lib.hid hr
        cases k with
        | zero =>
          clear hb hlen
          go_wp2_with fail
          refine (len_my_u32 _ _ _ _ _ _ _ hr.right).mono ?_
          rintro e w' ⟨rfl, rfl⟩
          clear hr
          go_wp2
          go_loopw [11] (fun t wr => ∃ i : Nat, i ≤ L ∧ t = .int .i64 i ∧ MyRing 81 1 w.heap.size wr ra ca 301 (L - i) (cells32 (zs.drop i)) ∧ Below w.heap.size w wr) (fun t _ => L - (intOf t).toNat)
          case atStart => exact ⟨0, by omega, rfl, HR.out.left, HB.out⟩
          case round =>
            obtain ⟨i, hi, rfl, hr, hb⟩ := hrel
            have HB := Lib.hid hb
            by_cases hil : i < L
            · have hil' : i < zs.length := by rw [HZL.out]; exact hil
              have hz0 : zs[i]? = some zs[i] := by simp [hil']
              generalize zs[i] = z at *
              have hr1 := hr.recast (show L - i = (L - (i + 1)) + 1 by omega) (cells32_drop hz0)
              have gL : (i : Int) < (L : Int) := by omega
              have HZ0 := Lib.hid hz0
              clear hr hb hz0
              go_wp2_with fail
              refine (pop_my_u32 _ _ _ _ _ _ _ _ hr1).mono ?_
              rintro e w2 ⟨rfl, hr2, hb2⟩
              have HR2 := Lib.hid hr2
              have hbb := HB.out.trans hb2
              obtain ⟨g0, off0, rfl, hg0, hc0⟩ := (HZ.out.below hbb (Nat.le_refl _)).2.2.2 i z HZ0.out
              have HB2 := Lib.hid hbb
              clear hr1 hr2 hb2 hbb
              go_wp2
              go_roundw
              case rel => exact ⟨i + 1, by omega, by go_num, HR2.out, HB2.out⟩
              case measure => simp [intOf]; omega
            · obtain rfl : L = i := by omega
              have hr1 := hr.recast (show L - L = 0 by omega) rfl
              clear hr hb
              go_wp2_with fail
              refine (len_my_u32 _ _ _ _ _ _ _ hr1).mono ?_
              rintro e w' ⟨rfl, rfl⟩
              go_wp2_with fail
              refine (works_any _).mono ?_
              rintro e w3 ⟨rfl, hb3⟩
              go_wp2
              go_ret
              exact ⟨rfl, HB.out.trans (hb3.mono (by have := hr1.size; omega))⟩
        | succ k =>
          obtain ⟨v, vs, rfl⟩ : ∃ v vs, fb = v :: vs := by
            cases fb with
            | nil => simp at hlen
            | cons v vs => exact ⟨v, vs, rfl⟩
          have gk : (0 : Int) < ((k + 1 : Nat) : Int) := by omega
          clear hb hlen
          go_wp2_with fail
          refine (len_my_u32 _ _ _ _ _ _ _ hr.right).mono ?_
          rintro e w' ⟨rfl, rfl⟩
          go_wp2_with fail
          refine (len_my_u32 _ _ _ _ _ _ _ hr.right).mono ?_
          rintro e w' ⟨rfl, rfl⟩
          go_wp2_with fail
          refine (pop_two _ _ _ _ _ _ _ _ _ _ _ _ _ hr.symm).mono ?_
          rintro e w2 ⟨rfl, hr2, hb2⟩
          clear hr
          go_wp2_with fail
          refine (len_my_u32 _ _ _ _ _ _ _ hr2.left).mono ?_
          rintro e w' ⟨rfl, rfl⟩
          have HR2 := Lib.hid hr2
          have HB2 := Lib.hid hb2
          clear hr2 hb2
          go_wp2
          go_roundw
          case rel => exact ⟨k, vs, HR2.out.symm, HB.out.trans HB2.out⟩
          case measure => rw [HR.out.right.toks, HR2.out.left.toks]; omega

set_option maxRecDepth 100000 in
set_option maxHeartbeats 800000 in
theorem ringApart_walk (a0 : Option Addr) (L cap0 : Nat) (zs : List Int) (a1 : Option Addr) (M cap1 : Nat) (ys : List Int) (w : World) (hz : IsRow .u32 w a0 L cap0 zs) (hy : IsRow .u32 w a1 M cap1 ys) :
    Calls Try.prog 7 #[.slice a0 L cap0, .slice a1 M cap1] w fun e w' => e = .returned (.bool true) ∧ Below w.heap.size w w' := by
  by_cases hL : L ≤ 300
  · by_cases hM : M ≤ 300
    · exact apartF w a0 L cap0 _ a1 M cap1 _ hz.nums.1 hy.nums.1 hL hM
    · have g1 : decide (300 < (L : Int)) = false := by rw [decide_eq_false_iff_not]; omega
      have g2 : 300 < (M : Int) := by omega
      clear hz hy hL hM
      go_enter Try.func7, Try.ntmps7
      go_wp2_with fail
      refine (works_any _).mono ?_
      rintro e w3 ⟨rfl, hb3⟩
      go_wp2
      go_ret
      exact ⟨rfl, hb3⟩
  · have g1 : 300 < (L : Int) := by omega
    clear hz hy hL
    go_enter Try.func7, Try.ntmps7
    go_wp2_with fail
    refine (works_any _).mono ?_
    rintro e w3 ⟨rfl, hb3⟩
    go_wp2
    go_ret
    exact ⟨rfl, hb3⟩
end Go.Proofs.Ytdlcmmodhicieaa
