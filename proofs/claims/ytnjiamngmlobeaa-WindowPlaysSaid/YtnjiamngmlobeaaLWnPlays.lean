/-
  The walk of WindowPlays.
-/
import Derived.Test.YtnjiamngmlobeaaWnMeant
import Derived.Test.YtnjiamngmlobeaaWnOps
import Derived.Deep.Cut
namespace Go.Proofs.Ytnjiamngmlobeaa
open Go.RowKit
set_option linter.unusedVariables false
set_option linter.unusedSimpArgs false

set_option maxHeartbeats 3200000 in
theorem wplaysF (mtu last : Int) (a : Option Addr) (len cap : Nat) (ss : List (Int × Int × Bool)) (w : World) (htk : wtakes mtu last = true) (hz : WOpRow w a len ss) (hlen : len ≤ 500) :
    Calls Try.prog 3 #[.int .i64 mtu, .int .i64 last, .slice a len cap] w fun e w' => e = .returned (.bool true) ∧ Below w.heap.size w w' := by
  have hn := wnew_yes w mtu last 0 htk
  have hn2 := fun w1 => rwnew_yes w1 mtu last 0 htk
  clear htk
  have d1 : decide (500 < (len : Int)) = false := by simp; omega
  obtain ⟨g1, hg⟩ : ∃ g1, g1 = w.heap.size := ⟨_, rfl⟩
  rw [← hg] at hn
  have HGG := Lib.hid hg
  have HZ := Lib.hid hz
  clear hg hz
  go_enter Try.func3, Try.ntmps3
  go_wp2_with fail
  refine hn.mono ?_
  rintro e wa ⟨rfl, hs1, ht1, hlt1⟩
  clear hn
  obtain ⟨g2, hg2⟩ : ∃ g2, g2 = wa.heap.size := ⟨_, rfl⟩
  replace hn2 := hn2 wa
  rw [← hg2] at hn2
  have hgg : g1 < g2 := by have := HGG.out; omega
  have HG2 := Lib.hid (show w.heap.size ≤ g2 by have := HGG.out; omega)
  have HT1 := Lib.hid ht1
  have HS1 := Lib.hid hs1
  clear hs1 ht1 hg2 hlt1
  go_wp2_with fail
  refine hn2.mono ?_
  rintro e wb ⟨rfl, hs2, ht2, _⟩
  have HS2 := Lib.hid (And.intro (HS1.out.turn ht2 (by simp)) hs2)
  have HT2 := Lib.hid (HT1.out.trans ht2)
  clear hs2 ht2 hn2 HS1 HT1
  go_wp2
  go_loopw [11] (fun x wr => ∃ (kx : Nat) (size thr part : Int), kx ≤ len ∧ x = .int .i64 (kx : Int) ∧ Wn 45 wr g1 mtu last size thr part kx ∧ Wn 47 wr g2 mtu last size thr part kx ∧ Turn [] w wr) (fun x _ => len - (intOf x).toNat)
  case atStart => exact ⟨0, _, _, _, by omega, rfl, HS2.out.1, HS2.out.2, HT2.out⟩
  case round =>
    obtain ⟨kx, size, thr, part, hi', rfl, hs1, hs2, hT⟩ := hrel
    have HT := Lib.hid hT
    by_cases hil : kx < len
    · obtain ⟨⟨kind, n, full⟩, hzi⟩ : ∃ z, ss[kx]? = some z := ⟨ss[kx]'(by rw [HZ.out.1]; exact hil), by simp [HZ.out.1, hil]⟩
      obtain ⟨gl, off, rfl, hgl, hc0, hc1, hc2⟩ := HZ.out.2 kx _ hzi
      simp only at hc0 hc1 hc2
      replace hc0 := (hT.cell (p := ⟨gl, off + kx * 3, none⟩) hgl (by simp)).trans hc0
      replace hc1 := (hT.cell (p := ⟨gl, off + kx * 3 + 1, none⟩) hgl (by simp)).trans hc1
      replace hc2 := (hT.cell (p := ⟨gl, off + kx * 3 + 2, none⟩) hgl (by simp)).trans hc2
      have hgw : gl < wr.heap.size := Nat.lt_of_lt_of_le hgl hT.size
      have hgn : gl ∉ [g1] := by have := HGG.out; simp; omega
      have hd := wdoes_any wr g1 mtu last size thr part kx kind n full (by omega) hs1
      have HS := Lib.hid (And.intro hs2 (And.intro hgw hgn))
      have HH := Lib.hid (And.intro hzi hgl)
      clear hT hzi hgl hs1 hs2 hgw hgn
      go_wp2_with fail
      refine hd.mono ?_
      rintro e wc ⟨rfl, hsc, htc⟩
      replace hc0 := (htc.cell (p := ⟨gl, off + kx * 3, none⟩) HS.out.2.1 HS.out.2.2).trans hc0
      replace hc1 := (htc.cell (p := ⟨gl, off + kx * 3 + 1, none⟩) HS.out.2.1 HS.out.2.2).trans hc1
      replace hc2 := (htc.cell (p := ⟨gl, off + kx * 3 + 2, none⟩) HS.out.2.1 HS.out.2.2).trans hc2
      have hd2 := rwmeant_any wc g2 mtu last size thr part kx kind n full (by omega) (HS.out.1.turn htc (by simp; omega))
      have HTc := Lib.hid (HT.out.over htc (by have := HGG.out; intro j hj; simp at hj; omega))
      have HSc := Lib.hid hsc
      clear hd hsc htc
      go_wp2_with fail
      refine hd2.mono ?_
      rintro e wd ⟨rfl, hsd, htd⟩
      have HTd := Lib.hid (HTc.out.over htd (by have := HG2.out; intro j hj; simp at hj; omega))
      have hse := HSc.out.turn htd (by simp; omega)
      have HSd := Lib.hid (And.intro hse hsd)
      have hv1 := wsize_any _ _ _ _ _ _ _ _ hse
      have hv2 := rwsize_any _ _ _ _ _ _ _ _ hsd
      have hv3 := wthr_any _ _ _ _ _ _ _ _ hse
      have hv4 := rwthr_any _ _ _ _ _ _ _ _ hsd
      generalize dS mtu last size thr part kind n full = size' at *
      generalize dT mtu size thr kind = thr' at *
      generalize dP last size thr part kind n full = part' at *
      clear hd2 hsd htd hse hc0 hc1 hc2
      go_wp2_with fail
      refine hv1.mono ?_
      rintro e w' ⟨rfl, rfl⟩
      go_wp2_with fail
      refine hv2.mono ?_
      rintro e w' ⟨rfl, rfl⟩
      go_wp2_with fail
      refine hv3.mono ?_
      rintro e w' ⟨rfl, rfl⟩
      go_wp2_with fail
      refine hv4.mono ?_
      rintro e w' ⟨rfl, rfl⟩
      clear hv1 hv2 hv3 hv4
      go_wp2
      go_roundw
      case rel => exact ⟨kx + 1, _, _, _, by omega, by go_num, HSd.out.1, HSd.out.2, HTd.out⟩
      case measure => simp [intOf]; omega
    · obtain rfl : len = kx := by omega
      clear hT hs1 hs2
      go_wp2_with fail
      refine (works_any wr).mono ?_
      rintro e w6 ⟨rfl, ht6⟩
      have HT6 := Lib.hid (HT.out.trans ht6)
      clear ht6
      go_wp2
      go_ret
      exact ⟨rfl, HT6.out.below (Nat.le_refl _) (by simp)⟩

set_option maxHeartbeats 3200000 in
theorem wplaysN (mtu last : Int) (a : Option Addr) (len cap : Nat) (ss : List (Int × Int × Bool)) (w : World) (htk : wtakes mtu last = false) (hz : WOpRow w a len ss) (hlen : len ≤ 500) :
    Calls Try.prog 3 #[.int .i64 mtu, .int .i64 last, .slice a len cap] w fun e w' => e = .returned (.bool true) ∧ Below w.heap.size w w' := by
  have hn := wnew_no w mtu last htk
  have hn2 := rwnew_no w mtu last htk
  clear htk
  have d1 : decide (500 < (len : Int)) = false := by simp; omega
  have HZ := Lib.hid hz
  clear hz
  go_enter Try.func3, Try.ntmps3
  go_wp2_with fail
  refine hn.mono ?_
  rintro e w' ⟨rfl, rfl⟩
  go_wp2_with fail
  refine hn2.mono ?_
  rintro e w' ⟨rfl, rfl⟩
  clear hn hn2
  go_wp2
  go_loopw [11] (fun x wr => ∃ (kx : Nat), kx ≤ len ∧ x = .int .i64 (kx : Int) ∧ Turn [] w wr) (fun x _ => len - (intOf x).toNat)
  case atStart => exact ⟨0, by omega, rfl, Turn.refl _ _⟩
  case round =>
    obtain ⟨kx, hi', rfl, hT⟩ := hrel
    have HT := Lib.hid hT
    by_cases hil : kx < len
    · obtain ⟨⟨kind, n, full⟩, hzi⟩ : ∃ z, ss[kx]? = some z := ⟨ss[kx]'(by rw [HZ.out.1]; exact hil), by simp [HZ.out.1, hil]⟩
      obtain ⟨gl, off, rfl, hgl, hc0, hc1, hc2⟩ := HZ.out.2 kx _ hzi
      simp only at hc0 hc1 hc2
      replace hc0 := (hT.cell (p := ⟨gl, off + kx * 3, none⟩) hgl (by simp)).trans hc0
      replace hc1 := (hT.cell (p := ⟨gl, off + kx * 3 + 1, none⟩) hgl (by simp)).trans hc1
      replace hc2 := (hT.cell (p := ⟨gl, off + kx * 3 + 2, none⟩) hgl (by simp)).trans hc2
      have HS := Lib.hid (show gl < wr.heap.size from Nat.lt_of_lt_of_le hgl hT.size)
      have HH := Lib.hid (And.intro hzi hgl)
      clear hT hzi hgl
      go_wp2_with fail
      refine (wdoes_nil wr kind n full).mono ?_
      rintro e wc ⟨rfl, htc⟩
      replace hc0 := (htc.cell (p := ⟨gl, off + kx * 3, none⟩) HS.out (by simp)).trans hc0
      replace hc1 := (htc.cell (p := ⟨gl, off + kx * 3 + 1, none⟩) HS.out (by simp)).trans hc1
      replace hc2 := (htc.cell (p := ⟨gl, off + kx * 3 + 2, none⟩) HS.out (by simp)).trans hc2
      have HTc := Lib.hid (HT.out.trans htc)
      clear htc
      go_wp2_with fail
      refine (rwmeant_nil wc kind n full).mono ?_
      rintro e wd ⟨rfl, htd⟩
      have HTd := Lib.hid (HTc.out.trans htd)
      clear htd hc0 hc1 hc2
      go_wp2_with fail
      refine (wsize_nil wd).mono ?_
      rintro e w' ⟨rfl, rfl⟩
      go_wp2_with fail
      refine (rwsize_nil wd).mono ?_
      rintro e w' ⟨rfl, rfl⟩
      go_wp2_with fail
      refine (wthr_nil wd).mono ?_
      rintro e w' ⟨rfl, rfl⟩
      go_wp2_with fail
      refine (rwthr_nil wd).mono ?_
      rintro e w' ⟨rfl, rfl⟩
      go_wp2
      go_roundw
      case rel => exact ⟨kx + 1, by omega, by go_num, HTd.out⟩
      case measure => simp [intOf]; omega
    · obtain rfl : len = kx := by omega
      clear hT
      go_wp2_with fail
      refine (works_any wr).mono ?_
      rintro e w6 ⟨rfl, ht6⟩
      have HT6 := Lib.hid (HT.out.trans ht6)
      clear ht6
      go_wp2
      go_ret
      exact ⟨rfl, HT6.out.below (Nat.le_refl _) (by simp)⟩

set_option maxHeartbeats 800000 in
theorem wplaysL (mtu last : Int) (a : Option Addr) (len cap : Nat) (w : World) (hlen : 500 < len) :
    Calls Try.prog 3 #[.int .i64 mtu, .int .i64 last, .slice a len cap] w fun e w' => e = .returned (.bool true) ∧ Below w.heap.size w w' := by
  have d1 : decide (500 < (len : Int)) = true := by simp; omega
  clear hlen
  go_enter Try.func3, Try.ntmps3
  go_wp2_with fail
  refine (works_any w).mono ?_
  rintro e w1 ⟨rfl, ht1⟩
  have HT1 := Lib.hid ht1
  clear ht1
  go_wp2
  go_ret
  exact ⟨rfl, HT1.out.below (Nat.le_refl _) (by simp)⟩

theorem windowPlays_walk (mtu last : Int) (a : Option Addr) (len cap : Nat) (ss : List (Int × Int × Bool)) (w : World) (w1 : (Lit.int .i64 mtu).wf = true) (w2 : (Lit.int .i64 last).wf = true) (hz : IsWOps w a len cap ss) :
    Calls Try.prog 3 #[.int .i64 mtu, .int .i64 last, .slice a len cap] w fun e w' => e = .returned (.bool true) ∧ Below w.heap.size w w' := by
  by_cases hl : len ≤ 500
  · cases htk : wtakes mtu last
    · exact wplaysN mtu last a len cap _ w htk hz.1 hl
    · exact wplaysF mtu last a len cap _ w htk hz.1 hl
  · exact wplaysL mtu last a len cap w (by omega)
end Go.Proofs.Ytnjiamngmlobeaa
