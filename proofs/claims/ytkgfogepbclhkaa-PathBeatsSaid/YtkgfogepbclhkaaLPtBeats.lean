/-
  The walk of PathBeats. Written by genptbeats.py.
-/
import Derived.Test.YtkgfogepbclhkaaPtLaw
import Derived.Test.YtkgfogepbclhkaaNums
namespace Go.Proofs.Ytkgfogepbclhkaa
open Go.RowKit
set_option linter.unusedVariables false

set_option maxRecDepth 10000 in
set_option maxHeartbeats 6400000 in
theorem beatsF (r : Int) (a : Option Addr) (len cap : Nat) (zs : List Int) (w : World) (h0 : 0 ≤ r) (h1 : r ≤ 255) (hz : Nums .u16 w a len zs) (hlen : len ≤ 300) :
    Calls Try.prog 6 #[.int .u8 r, .slice a len cap] w fun e w' => e = .returned (.bool true) ∧ Below w.heap.size w w' := by
  have hp := plain_any w r h0 h1
  have hk : 0 ≤ r % 21 ∧ r % 21 ≤ 20 := by omega
  obtain ⟨k, hkk⟩ : ∃ k, k = r % 21 := ⟨_, rfl⟩
  rw [← hkk] at hp hk
  have hn := fun W => pl_new W k hk.1 hk.2 0
  have d1 : decide (300 < (len : Int)) = false := by simp; omega
  have HZ := Lib.hid hz
  clear hz hkk h0 h1 hk
  go_enter Try.func6, Try.ntmps6
  go_wp2_with fail
  refine hp.mono ?_
  rintro e wa ⟨rfl, hta⟩
  replace hn := hn wa
  have HTa := Lib.hid hta
  clear hp hta
  go_wp2_with fail
  refine hn.mono ?_
  rintro e w0 ⟨g, gr, gw, rfl, hs0, ht0, hg, hgr, hgw⟩
  have HGG : Hid (w.heap.size ≤ g ∧ w.heap.size ≤ gr ∧ w.heap.size ≤ gw) := Lib.hid (by have := HTa.out.size; omega)
  have HO : Hid (∀ j ∈ [g, gr, gw], j ∈ ([] : List Nat) ∨ w.heap.size ≤ j) := Lib.hid (by have := HGG.out; intro j hj; simp at hj; omega)
  have hw0 := pwhen_at w0 g gr gw _ 0 10 hs0 rfl
  have HS0 := Lib.hid (And.intro hs0 (HTa.out.trans ht0))
  clear hn ht0 hg hgr hgw hs0
  go_wp2_with fail
  refine hw0.mono ?_
  rintro e w' ⟨rfl, rfl⟩
  clear hw0
  go_wp2
  go_loopw [8, 7, 9] (fun x y1 y2 wr => ∃ (kx : Nat) (nw : Int) (p : PS), kx ≤ len ∧ x = .int .i64 (kx : Int) ∧ y1 = .int .i64 nw ∧ 0 ≤ nw ∧ nw ≤ 49 * (kx : Int) ∧ PP wr g gr gw p 0 ∧ Fix (pl k) p ∧ Turn [] w wr) (fun x _ _ _ => len - (intOf x).toNat)
  case atStart => exact ⟨0, 0, _, by omega, rfl, rfl, by omega, by omega, HS0.out.1, Fix.refl _, HS0.out.2⟩
  case round =>
    obtain ⟨kx, nw, p, hi', rfl, rfl, hn0, hn1, hs, hfp, hT⟩ := hrel
    have HT := Lib.hid hT
    by_cases hil : kx < len
    · obtain ⟨z, hzi⟩ : ∃ z, zs[kx]? = some z := ⟨zs[kx]'(by rw [HZ.out.1]; exact hil), by simp [HZ.out.1, hil]⟩
      obtain ⟨gl, off, rfl, hgl, hc0⟩ := HZ.out.2.2.2 kx _ hzi
      have hwz := wf_u16_in (HZ.out.2.2.1 z (List.mem_of_getElem? hzi))
      replace hc0 := (hT.cell (p := ⟨gl, off + kx, none⟩) hgl (by simp)).trans hc0
      have hm : z.tmod 50 = z % 50 := Int.tmod_eq_emod_of_nonneg hwz.1
      obtain ⟨m, hmm⟩ : ∃ m, m = z % 50 := ⟨_, rfl⟩
      rw [← hmm] at hm
      have hm0 : 0 ≤ m ∧ m ≤ 49 := by omega
      clear hT hzi hgl hmm
      obtain ⟨nn, hnn⟩ : ∃ nn, nn = nw + m := ⟨_, rfl⟩
      have HN : Hid (0 ≤ nn ∧ nn ≤ 49 * (kx : Int) + 49) := Lib.hid (by omega)
      have hnb : 0 ≤ nn ∧ nn ≤ 15000 := by omega
      have hadd : nw + m = nn := hnn.symm
      clear hnn hn0 hn1 hm0
      by_cases hdue : p.due ≤ nn
      · skip
        obtain ⟨q, hqe⟩ : ∃ q, q = p.late.sent nn := ⟨_, rfl⟩
        have hb1 : p.isDue nn = true := by unfold PS.isDue; simpa using hdue
        have hb2 : p.beat nn = q := by unfold PS.beat; rw [hb1, hqe]; rfl
        have hgq : PGood q 0 := by rw [← hb2]; exact hs.good.beat nn
        have hq1 : q.due = nn + q.x + 10 := by rw [hqe]; show min nn 2305843009213693952 + p.late.x + p.late.every = nn + p.late.x + 10; rw [(hfp.trans (fix_late p)).every, show (pl k).every = 10 from rfl]; omega
        have hfx : Fix (pl k) q := by rw [← hb2]; exact hfp.trans (fix_beat p nn)
        obtain ⟨du, hdu⟩ : ∃ du, du = p.due := ⟨_, rfl⟩
        have hw1 := pwhen_at wr g gr gw p 0 du hs hdu.symm
        have hbt := pbeat_at wr g gr gw p q 0 nn true hs hb1 hb2
        obtain ⟨xq, hxq⟩ : ∃ xq, q.x = xq := ⟨_, rfl⟩
        have hx : 1 ≤ xq ∧ xq ≤ 1048576 := by have := hgq.est.l1; have := hgq.est.lx; have := hgq.est.xh; have := hgq.est.hm; omega
        rw [hxq] at hq1
        have hd1 : decide (du ≤ nn) = true := by rw [hdu]; simpa using hdue
        have hd2 : decide (nn < du) = false := by rw [hdu]; simp; omega
        have hb3 : q.isDue nn = false := by unfold PS.isDue; simp; omega
        have hb4 : q.beat nn = q := by unfold PS.beat; rw [hb3]; rfl
        have hdd : q.due = nn + xq + 10 := hq1
        have HQ := Lib.hid (And.intro hfx (And.intro hxq (And.intro hdd (And.intro hb3 hb4))))
        clear hs hfp hdue hqe hb1 hb2 hgq hq1 hfx hdu hxq hb3 hb4 hdd
        go_wp2_with fail
        refine hw1.mono ?_
        rintro e w' ⟨rfl, rfl⟩
        clear hw1
        go_wp2_with fail
        refine hbt.mono ?_
        rintro e wb ⟨rfl, hsb, htb⟩
        clear hbt
        have HTb := Lib.hid (HT.out.over htb HO.out)
        have hwq := pwhen_at wb g gr gw q 0 _ hsb HQ.out.2.2.1
        have hrq := prto_at wb g gr gw q 0 _ hsb HQ.out.2.1
        have hbq := pbeat_at wb g gr gw q q 0 nn false hsb HQ.out.2.2.2.1 HQ.out.2.2.2.2
        clear hsb htb
        go_wp2_with fail
        refine hwq.mono ?_
        rintro e w' ⟨rfl, rfl⟩
        clear hwq
        go_wp2_with fail
        refine hrq.mono ?_
        rintro e w' ⟨rfl, rfl⟩
        clear hrq
        go_wp2_with fail
        refine hbq.mono ?_
        rintro e wc ⟨rfl, hsc, htc⟩
        have HC := Lib.hid (And.intro hsc (HTb.out.over htc HO.out))
        clear hbq hsc htc
        go_wp2
        go_roundw
        case rel => exact ⟨kx + 1, nn, _, by omega, by go_num, rfl, HN.out.1, by have := HN.out.2; omega, HC.out.1, HQ.out.1, HC.out.2⟩
        case measure => simp [intOf]; omega
      · skip
        obtain ⟨q, hqe⟩ : ∃ q, q = p := ⟨_, rfl⟩
        have hb1 : p.isDue nn = false := by unfold PS.isDue; simpa using hdue
        have hb2 : p.beat nn = q := by unfold PS.beat; rw [hb1, hqe]; rfl
        have hgq : PGood q 0 := by rw [hqe]; exact hs.good
        have hq1 : q.due = p.due := by rw [hqe]
        have hfx : Fix (pl k) q := by rw [← hb2]; exact hfp.trans (fix_beat p nn)
        obtain ⟨du, hdu⟩ : ∃ du, du = p.due := ⟨_, rfl⟩
        have hw1 := pwhen_at wr g gr gw p 0 du hs hdu.symm
        have hbt := pbeat_at wr g gr gw p q 0 nn false hs hb1 hb2
        obtain ⟨xq, hxq⟩ : ∃ xq, q.x = xq := ⟨_, rfl⟩
        have hx : 1 ≤ xq ∧ xq ≤ 1048576 := by have := hgq.est.l1; have := hgq.est.lx; have := hgq.est.xh; have := hgq.est.hm; omega
        skip
        have hd1 : decide (du ≤ nn) = false := by rw [hdu]; simpa using hdue
        have hd2 : decide (nn < du) = true := by rw [hdu]; simp; omega
        have hb3 : q.isDue nn = false := by unfold PS.isDue; simp; omega
        have hb4 : q.beat nn = q := by unfold PS.beat; rw [hb3]; rfl
        have hdd : q.due = du := by rw [hq1, hdu]
        have HQ := Lib.hid (And.intro hfx (And.intro hxq (And.intro hdd (And.intro hb3 hb4))))
        clear hs hfp hdue hqe hb1 hb2 hgq hq1 hfx hdu hxq hb3 hb4 hdd
        go_wp2_with fail
        refine hw1.mono ?_
        rintro e w' ⟨rfl, rfl⟩
        clear hw1
        go_wp2_with fail
        refine hbt.mono ?_
        rintro e wb ⟨rfl, hsb, htb⟩
        clear hbt
        have HTb := Lib.hid (HT.out.over htb HO.out)
        have hwq := pwhen_at wb g gr gw q 0 _ hsb HQ.out.2.2.1
        have hbq := pbeat_at wb g gr gw q q 0 nn false hsb HQ.out.2.2.2.1 HQ.out.2.2.2.2
        clear hsb htb
        go_wp2_with fail
        refine hwq.mono ?_
        rintro e w' ⟨rfl, rfl⟩
        clear hwq
        go_wp2_with fail
        refine hbq.mono ?_
        rintro e wc ⟨rfl, hsc, htc⟩
        have HC := Lib.hid (And.intro hsc (HTb.out.over htc HO.out))
        clear hbq hsc htc
        go_wp2
        go_roundw
        case rel => exact ⟨kx + 1, nn, _, by omega, by go_num, rfl, HN.out.1, by have := HN.out.2; omega, HC.out.1, HQ.out.1, HC.out.2⟩
        case measure => simp [intOf]; omega
    · obtain rfl : len = kx := by omega
      clear hT hs hfp
      go_wp2_with fail
      refine (works_any wr).mono ?_
      rintro e w6 ⟨rfl, ht6⟩
      have HT6 := Lib.hid (HT.out.trans ht6)
      clear ht6
      go_wp2
      go_ret
      exact ⟨rfl, HT6.out.below (Nat.le_refl _) (by simp)⟩

set_option maxHeartbeats 800000 in
theorem beatsL (r : Int) (a : Option Addr) (len cap : Nat) (w : World) (hlen : 300 < len) :
    Calls Try.prog 6 #[.int .u8 r, .slice a len cap] w fun e w' => e = .returned (.bool true) ∧ Below w.heap.size w w' := by
  have d1 : decide (300 < (len : Int)) = true := by simp; omega
  clear hlen
  go_enter Try.func6, Try.ntmps6
  go_wp2_with fail
  refine (works_any w).mono ?_
  rintro e w1 ⟨rfl, ht1⟩
  go_wp2
  go_ret
  exact ⟨rfl, ht1.below (Nat.le_refl _) (by simp)⟩

theorem pathBeats_walk (r : Int) (a : Option Addr) (len cap : Nat) (zs : List Int) (w : World) (w1 : (Lit.int .u8 r).wf = true) (hz : IsRow .u16 w a len cap zs) :
    Calls Try.prog 6 #[.int .u8 r, .slice a len cap] w fun e w' => e = .returned (.bool true) ∧ Below w.heap.size w w' := by
  by_cases hl : len ≤ 300
  · exact beatsF r a len cap _ w (wf_u8_in w1).1 (wf_u8_in w1).2 hz.nums.1 hl
  · exact beatsL r a len cap w (by omega)
end Go.Proofs.Ytkgfogepbclhkaa
