/-
  The walk of WindowHalves.
-/
import Derived.Test.YtnjiamngmlobeaaWnDo
import Derived.Test.YtnjiamngmlobeaaWnOps
import Derived.Deep.Cut
namespace Go.Proofs.Ytnjiamngmlobeaa
open Go.RowKit
set_option linter.unusedVariables false
set_option linter.unusedSimpArgs false

set_option maxHeartbeats 3200000 in
theorem whalvesF (mtu last : Int) (a : Option Addr) (len cap : Nat) (ss : List (Int × Int × Bool)) (w : World) (htk : wtakes mtu last = true) (hz : WOpRow w a len ss) (hlen : len ≤ 500) :
    Calls Try.prog 7 #[.int .i64 mtu, .int .i64 last, .slice a len cap, .bool false] w fun e w' => e = .returned (.bool true) ∧ Below w.heap.size w w' := by
  have hn := wnew_yes w mtu last 0 htk
  clear htk
  have d1 : decide (500 < (len : Int)) = false := by simp; omega
  obtain ⟨g, hg⟩ : ∃ g, g = w.heap.size := ⟨_, rfl⟩
  rw [← hg] at hn
  have HGG := Lib.hid hg
  clear hg
  have HZ := Lib.hid hz
  clear hz
  go_enter Try.func7, Try.ntmps7
  go_wp2_with fail
  refine hn.mono ?_
  rintro e wa ⟨rfl, hs1, ht1, _⟩
  have HS1 := Lib.hid (And.intro hs1 ht1)
  clear hn hs1 ht1
  go_wp2
  go_loopw [11] (fun x wr => ∃ (kx : Nat) (size thr part : Int), kx ≤ len ∧ x = .int .i64 (kx : Int) ∧ Wn 45 wr g mtu last size thr part kx ∧ Turn [] w wr) (fun x _ => len - (intOf x).toNat)
  case atStart => exact ⟨0, _, _, _, by omega, rfl, HS1.out.1, HS1.out.2⟩
  case round =>
    obtain ⟨kx, size, thr, part, hi', rfl, hs0, hT⟩ := hrel
    have HT := Lib.hid hT
    by_cases hil : kx < len
    · obtain ⟨⟨kind, n, full⟩, hzi⟩ : ∃ z, ss[kx]? = some z := ⟨ss[kx]'(by rw [HZ.out.1]; exact hil), by simp [HZ.out.1, hil]⟩
      obtain ⟨gl, off, rfl, hgl, hc0, hc1, hc2⟩ := HZ.out.2 kx _ hzi
      simp only at hc0 hc1 hc2
      replace hc0 := (hT.cell (p := ⟨gl, off + kx * 3, none⟩) hgl (by simp)).trans hc0
      replace hc1 := (hT.cell (p := ⟨gl, off + kx * 3 + 1, none⟩) hgl (by simp)).trans hc1
      replace hc2 := (hT.cell (p := ⟨gl, off + kx * 3 + 2, none⟩) hgl (by simp)).trans hc2
      have hd := wdoes_any wr g mtu last size thr part kx kind n full (by omega) hs0
      have HH := Lib.hid (And.intro hzi hgl)
      clear hT hzi hgl hs0
      go_wp2_with fail
      refine hd.mono ?_
      rintro e wc ⟨rfl, hsc, htc⟩
      have HC := Lib.hid (And.intro hsc (HT.out.over htc (by have := HGG.out; intro j hj; simp at hj; omega)))
      clear hd hsc htc hc0 hc1 hc2
      go_wp2
      go_roundw
      case rel => exact ⟨kx + 1, _, _, _, by omega, by go_num, HC.out.1, HC.out.2⟩
      case measure => simp [intOf]; omega
    · obtain rfl : len = kx := by omega
      obtain ⟨a1, a2, a3, a4, a5, a6, a7, a8, a9, a10⟩ := hs0.good
      clear hT a7 a8 a9 a10
      have hl := wfast_any wr g mtu last size thr part len hs0 0
      have hw : wT mtu size = max (size / 2) (4 * mtu) := rfl
      have hm : 4 * mtu ≤ wT mtu (min size (max (size / 2) (4 * mtu))) ∧ wT mtu (min size (max (size / 2) (4 * mtu))) ≤ max (size / 2) (4 * mtu) := by unfold wT; omega
      rw [hw] at hl
      obtain ⟨t2, ht2⟩ : ∃ t2, t2 = wT mtu (min size (max (size / 2) (4 * mtu))) := ⟨_, rfl⟩
      rw [← ht2] at hm
      have d5 : decide (4 * mtu ≤ t2) = true := by simpa using hm.1
      have d6 : decide (t2 ≤ max (size / 2) (4 * mtu)) = true := by simp only [decide_eq_true_eq]; exact hm.2
      have HTT := Lib.hid ht2
      have hv := wsize_any wr g _ _ _ _ _ _ hs0
      clear hs0 hw hm ht2
      go_wp2_with fail
      refine hv.mono ?_
      rintro e w' ⟨rfl, rfl⟩
      clear hv
      go_wp2_with fail
      refine hl.mono ?_
      rintro e w2 ⟨rfl, hs2, htu2⟩
      have HT2 := Lib.hid (HT.out.over htu2 (by have := HGG.out; intro j hj; simp at hj; omega))
      have hv3 := wthr_any w2 g _ _ _ _ _ _ hs2
      have hv4 := wsize_any w2 g _ _ _ _ _ _ hs2
      have hl2 := wtimeout_any w2 g _ _ _ _ _ _ hs2 0
      rw [← HTT.out] at hl2
      clear hl hs2 htu2
      go_wp2_with fail
      refine hv3.mono ?_
      rintro e w' ⟨rfl, rfl⟩
      go_wp2_with fail
      refine hv4.mono ?_
      rintro e w' ⟨rfl, rfl⟩
      clear hv3 hv4
      go_wp2_with fail
      refine hl2.mono ?_
      rintro e w3 ⟨rfl, hs3, htu3⟩
      have HT3 := Lib.hid (HT2.out.over htu3 (by have := HGG.out; intro j hj; simp at hj; omega))
      have hv5 := wthr_any w3 g _ _ _ _ _ _ hs3
      have hv6 := wsize_any w3 g _ _ _ _ _ _ hs3
      clear hl2 hs3 htu3
      go_wp2_with fail
      refine hv5.mono ?_
      rintro e w' ⟨rfl, rfl⟩
      go_wp2_with fail
      refine hv5.mono ?_
      rintro e w' ⟨rfl, rfl⟩
      go_wp2_with fail
      refine hv6.mono ?_
      rintro e w' ⟨rfl, rfl⟩
      clear hv5 hv6
      go_wp2_with fail
      refine (works_any w3).mono ?_
      rintro e w6 ⟨rfl, ht6⟩
      have HT6 := Lib.hid (HT3.out.trans ht6)
      clear ht6
      go_wp2
      go_ret
      exact ⟨rfl, HT6.out.below (Nat.le_refl _) (by simp)⟩

set_option maxHeartbeats 3200000 in
theorem whalvesT (mtu last : Int) (a : Option Addr) (len cap : Nat) (ss : List (Int × Int × Bool)) (w : World) (htk : wtakes mtu last = true) (hz : WOpRow w a len ss) (hlen : len ≤ 500) :
    Calls Try.prog 7 #[.int .i64 mtu, .int .i64 last, .slice a len cap, .bool true] w fun e w' => e = .returned (.bool true) ∧ Below w.heap.size w w' := by
  have hn := wnew_yes w mtu last 0 htk
  clear htk
  have d1 : decide (500 < (len : Int)) = false := by simp; omega
  obtain ⟨g, hg⟩ : ∃ g, g = w.heap.size := ⟨_, rfl⟩
  rw [← hg] at hn
  have HGG := Lib.hid hg
  clear hg
  have HZ := Lib.hid hz
  clear hz
  go_enter Try.func7, Try.ntmps7
  go_wp2_with fail
  refine hn.mono ?_
  rintro e wa ⟨rfl, hs1, ht1, _⟩
  have HS1 := Lib.hid (And.intro hs1 ht1)
  clear hn hs1 ht1
  go_wp2
  go_loopw [11] (fun x wr => ∃ (kx : Nat) (size thr part : Int), kx ≤ len ∧ x = .int .i64 (kx : Int) ∧ Wn 45 wr g mtu last size thr part kx ∧ Turn [] w wr) (fun x _ => len - (intOf x).toNat)
  case atStart => exact ⟨0, _, _, _, by omega, rfl, HS1.out.1, HS1.out.2⟩
  case round =>
    obtain ⟨kx, size, thr, part, hi', rfl, hs0, hT⟩ := hrel
    have HT := Lib.hid hT
    by_cases hil : kx < len
    · obtain ⟨⟨kind, n, full⟩, hzi⟩ : ∃ z, ss[kx]? = some z := ⟨ss[kx]'(by rw [HZ.out.1]; exact hil), by simp [HZ.out.1, hil]⟩
      obtain ⟨gl, off, rfl, hgl, hc0, hc1, hc2⟩ := HZ.out.2 kx _ hzi
      simp only at hc0 hc1 hc2
      replace hc0 := (hT.cell (p := ⟨gl, off + kx * 3, none⟩) hgl (by simp)).trans hc0
      replace hc1 := (hT.cell (p := ⟨gl, off + kx * 3 + 1, none⟩) hgl (by simp)).trans hc1
      replace hc2 := (hT.cell (p := ⟨gl, off + kx * 3 + 2, none⟩) hgl (by simp)).trans hc2
      have hd := wdoes_any wr g mtu last size thr part kx kind n full (by omega) hs0
      have HH := Lib.hid (And.intro hzi hgl)
      clear hT hzi hgl hs0
      go_wp2_with fail
      refine hd.mono ?_
      rintro e wc ⟨rfl, hsc, htc⟩
      have HC := Lib.hid (And.intro hsc (HT.out.over htc (by have := HGG.out; intro j hj; simp at hj; omega)))
      clear hd hsc htc hc0 hc1 hc2
      go_wp2
      go_roundw
      case rel => exact ⟨kx + 1, _, _, _, by omega, by go_num, HC.out.1, HC.out.2⟩
      case measure => simp [intOf]; omega
    · obtain rfl : len = kx := by omega
      obtain ⟨a1, a2, a3, a4, a5, a6, a7, a8, a9, a10⟩ := hs0.good
      clear hT a7 a8 a9 a10
      have hl := wtimeout_any wr g mtu last size thr part len hs0 0
      have hw : wT mtu size = max (size / 2) (4 * mtu) := rfl
      have hm : 4 * mtu ≤ wT mtu (mtu) ∧ wT mtu (mtu) ≤ max (size / 2) (4 * mtu) := by unfold wT; omega
      rw [hw] at hl
      obtain ⟨t2, ht2⟩ : ∃ t2, t2 = wT mtu (mtu) := ⟨_, rfl⟩
      rw [← ht2] at hm
      have d5 : decide (4 * mtu ≤ t2) = true := by simpa using hm.1
      have d6 : decide (t2 ≤ max (size / 2) (4 * mtu)) = true := by simp only [decide_eq_true_eq]; exact hm.2
      have HTT := Lib.hid ht2
      have hv := wsize_any wr g _ _ _ _ _ _ hs0
      clear hs0 hw hm ht2
      go_wp2_with fail
      refine hv.mono ?_
      rintro e w' ⟨rfl, rfl⟩
      clear hv
      go_wp2_with fail
      refine hl.mono ?_
      rintro e w2 ⟨rfl, hs2, htu2⟩
      have HT2 := Lib.hid (HT.out.over htu2 (by have := HGG.out; intro j hj; simp at hj; omega))
      have hv3 := wthr_any w2 g _ _ _ _ _ _ hs2
      have hv4 := wsize_any w2 g _ _ _ _ _ _ hs2
      have hl2 := wtimeout_any w2 g _ _ _ _ _ _ hs2 0
      rw [← HTT.out] at hl2
      clear hl hs2 htu2
      go_wp2_with fail
      refine hv3.mono ?_
      rintro e w' ⟨rfl, rfl⟩
      go_wp2_with fail
      refine hv4.mono ?_
      rintro e w' ⟨rfl, rfl⟩
      clear hv3 hv4
      go_wp2_with fail
      refine hl2.mono ?_
      rintro e w3 ⟨rfl, hs3, htu3⟩
      have HT3 := Lib.hid (HT2.out.over htu3 (by have := HGG.out; intro j hj; simp at hj; omega))
      have hv5 := wthr_any w3 g _ _ _ _ _ _ hs3
      have hv6 := wsize_any w3 g _ _ _ _ _ _ hs3
      clear hl2 hs3 htu3
      go_wp2_with fail
      refine hv5.mono ?_
      rintro e w' ⟨rfl, rfl⟩
      go_wp2_with fail
      refine hv5.mono ?_
      rintro e w' ⟨rfl, rfl⟩
      go_wp2_with fail
      refine hv6.mono ?_
      rintro e w' ⟨rfl, rfl⟩
      clear hv5 hv6
      go_wp2_with fail
      refine (works_any w3).mono ?_
      rintro e w6 ⟨rfl, ht6⟩
      have HT6 := Lib.hid (HT3.out.trans ht6)
      clear ht6
      go_wp2
      go_ret
      exact ⟨rfl, HT6.out.below (Nat.le_refl _) (by simp)⟩

set_option maxHeartbeats 800000 in
theorem whalvesL (mtu last : Int) (a : Option Addr) (len cap : Nat) (tm : Bool) (w : World) (htk : wtakes mtu last = true) (hlen : 500 < len) :
    Calls Try.prog 7 #[.int .i64 mtu, .int .i64 last, .slice a len cap, .bool tm] w fun e w' => e = .returned (.bool true) ∧ Below w.heap.size w w' := by
  have hn := wnew_yes w mtu last 0 htk
  have d1 : decide (500 < (len : Int)) = true := by simp; omega
  clear htk hlen
  go_enter Try.func7, Try.ntmps7
  go_wp2_with fail
  refine hn.mono ?_
  rintro e wa ⟨rfl, _, ht1, _⟩
  have HT := Lib.hid ht1
  clear hn ht1
  go_wp2_with fail
  refine (works_any wa).mono ?_
  rintro e w6 ⟨rfl, ht6⟩
  have HT6 := Lib.hid (HT.out.trans ht6)
  clear ht6
  go_wp2
  go_ret
  exact ⟨rfl, HT6.out.below (Nat.le_refl _) (by simp)⟩
set_option maxHeartbeats 800000 in
theorem whalvesN (mtu last : Int) (a : Option Addr) (len cap : Nat) (tm : Bool) (w : World) (htk : wtakes mtu last = false) :
    Calls Try.prog 7 #[.int .i64 mtu, .int .i64 last, .slice a len cap, .bool tm] w fun e w' => e = .returned (.bool true) ∧ Below w.heap.size w w' := by
  have hn := wnew_no w mtu last htk
  clear htk
  go_enter Try.func7, Try.ntmps7
  go_wp2_with fail
  refine hn.mono ?_
  rintro e w' ⟨rfl, rfl⟩
  clear hn
  go_wp2_with fail
  refine (works_any w).mono ?_
  rintro e w6 ⟨rfl, ht6⟩
  have HT6 := Lib.hid ((Turn.refl [] w).trans ht6)
  clear ht6
  go_wp2
  go_ret
  exact ⟨rfl, HT6.out.below (Nat.le_refl _) (by simp)⟩

theorem windowHalves_walk (mtu last : Int) (a : Option Addr) (len cap : Nat) (ss : List (Int × Int × Bool)) (tm : Bool) (w : World) (w1 : (Lit.int .i64 mtu).wf = true) (w2 : (Lit.int .i64 last).wf = true) (hz : IsWOps w a len cap ss) :
    Calls Try.prog 7 #[.int .i64 mtu, .int .i64 last, .slice a len cap, .bool tm] w fun e w' => e = .returned (.bool true) ∧ Below w.heap.size w w' := by
  cases htk : wtakes mtu last
  · exact whalvesN mtu last a len cap tm w htk
  · by_cases hl : len ≤ 500
    · cases tm
      · exact whalvesF mtu last a len cap _ w htk hz.1 hl
      · exact whalvesT mtu last a len cap _ w htk hz.1 hl
    · exact whalvesL mtu last a len cap tm w htk (by omega)
end Go.Proofs.Ytnjiamngmlobeaa
