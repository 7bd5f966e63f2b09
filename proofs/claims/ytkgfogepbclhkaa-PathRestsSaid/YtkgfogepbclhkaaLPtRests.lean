/-
  The walk of PathRests. Written by genptrests.py.
-/
import Derived.Test.YtkgfogepbclhkaaPtLaw
namespace Go.Proofs.Ytkgfogepbclhkaa
open Go.RowKit
set_option linter.unusedVariables false

set_option maxRecDepth 10000 in
set_option maxHeartbeats 6400000 in
theorem restsF (r : Int) (a : Option Addr) (len cap : Nat) (ss : List PO) (w : World) (h0 : 0 ≤ r) (h1 : r ≤ 255) (hz : POpRow w a len ss) (hlen : len ≤ 300) :
    Calls Try.prog 7 #[.int .u8 r, .slice a len cap] w fun e w' => e = .returned (.bool true) ∧ Below w.heap.size w w' := by
  have hp := plain_any w r h0 h1
  have hk : 0 ≤ r % 21 ∧ r % 21 ≤ 20 := by omega
  obtain ⟨k, hkk⟩ : ∃ k, k = r % 21 := ⟨_, rfl⟩
  rw [← hkk] at hp hk
  have hn := fun W => pl_new W k hk.1 hk.2 0
  have d1 : decide (300 < (len : Int)) = false := by simp; omega
  have HZ := Lib.hid hz
  clear hz hkk h0 h1
  go_enter Try.func7, Try.ntmps7
  go_wp2_with fail
  refine hp.mono ?_
  rintro e wa ⟨rfl, hta⟩
  replace hn := hn wa
  have HTa := Lib.hid hta
  clear hp hta
  go_wp2_with fail
  refine hn.mono ?_
  rintro e w0 ⟨g, gr, gw, rfl, hs0, ht0, hg, hgr, hgw⟩
  have HGG : Hid (w.heap.size ≤ g ∧ w.heap.size ≤ gr ∧ w.heap.size ≤ gw) := Lib.hid (by have := HTa.out.size; omega)
  have HO : Hid (∀ j ∈ [g, gr, gw], j ∈ ([] : List Nat) ∨ w.heap.size ≤ j) := Lib.hid (by have := HGG.out; intro j hj; simp at hj; omega)
  have HS0 := Lib.hid (And.intro hs0 (HTa.out.trans ht0))
  clear hn ht0 hg hgr hgw hs0
  go_wp2
  go_loopw [7, 8, 9, 43, 51, 64] (fun x y1 y2 y3 y4 y5 wr => ∃ (kx : Nat) (p : PS), kx ≤ len ∧ x = .int .i64 (kx : Int) ∧ PP wr g gr gw p kx ∧ Fix (pl k) p ∧ Turn [] w wr) (fun x _ _ _ _ _ _ => len - (intOf x).toNat)
  case atStart => exact ⟨0, _, by omega, rfl, HS0.out.1, Fix.refl _, HS0.out.2⟩
  case round =>
    obtain ⟨kx, p, hi', rfl, hs, hfp, hT⟩ := hrel
    have HT := Lib.hid hT
    by_cases hil : kx < len
    · obtain ⟨⟨kind, n, full, t, u⟩, hzi⟩ : ∃ z, ss[kx]? = some z := ⟨ss[kx]'(by rw [HZ.out.1]; exact hil), by simp [HZ.out.1, hil]⟩
      obtain ⟨hwt, hwu, gl, off, rfl, hgl, hc0, hc1, hc2, hc3, hc4⟩ := HZ.out.2 kx _ hzi
      simp only at hwt hwu hc0 hc1 hc2 hc3 hc4
      replace hc0 := (hT.cell (p := ⟨gl, off + kx * 5, none⟩) hgl (by simp)).trans hc0
      replace hc1 := (hT.cell (p := ⟨gl, off + kx * 5 + 1, none⟩) hgl (by simp)).trans hc1
      replace hc2 := (hT.cell (p := ⟨gl, off + kx * 5 + 2, none⟩) hgl (by simp)).trans hc2
      replace hc3 := (hT.cell (p := ⟨gl, off + kx * 5 + 3, none⟩) hgl (by simp)).trans hc3
      replace hc4 := (hT.cell (p := ⟨gl, off + kx * 5 + 4, none⟩) hgl (by simp)).trans hc4
      have hgw2 : gl < wr.heap.size := Nat.lt_of_lt_of_le hgl hT.size
      have HGW := Lib.hid (And.intro hgw2 (show gl ∉ [g, gr, gw] by have := HGG.out; simp; omega))
      have hd := pdoes_any wr g gr gw p kx kind n full t u (by omega) hwt hwu hs
      have hfx := hfp.trans (fix_next p kind n full t u)
      have HH := Lib.hid (And.intro hfp.mtu hfp.hi)
      have hb1 : -1048576 ≤ 2 * p.x ∧ 2 * p.x ≤ 2097152 := by have := hs.good.est.l1; have := hs.good.est.lx; have := hs.good.est.xh; have := hs.good.est.hm; omega
      clear hT hwt hwu hgl hzi hgw2 hfp
      by_cases k0 : kind = 0
      · subst k0
        rw [show p.next 0 n full t u = p.answered from rfl] at hd hfx
        have HF := Lib.hid hfx
        have hv1 := prto_any wr g gr gw p kx hs
        have hv2 := psize_any wr g gr gw p kx hs
        clear hfx hs
        go_wp2_with fail
        refine hv1.mono ?_
        rintro e w' ⟨rfl, rfl⟩
        go_wp2_with fail
        refine hv2.mono ?_
        rintro e w' ⟨rfl, rfl⟩
        clear hv1 hv2
        go_wp2_with fail
        refine hd.mono ?_
        rintro e wc ⟨rfl, hsc, htc⟩
        replace hc0 := (htc.cell (p := ⟨gl, off + kx * 5, none⟩) HGW.out.1 HGW.out.2).trans hc0
        replace hc1 := (htc.cell (p := ⟨gl, off + kx * 5 + 1, none⟩) HGW.out.1 HGW.out.2).trans hc1
        replace hc2 := (htc.cell (p := ⟨gl, off + kx * 5 + 2, none⟩) HGW.out.1 HGW.out.2).trans hc2
        replace hc3 := (htc.cell (p := ⟨gl, off + kx * 5 + 3, none⟩) HGW.out.1 HGW.out.2).trans hc3
        replace hc4 := (htc.cell (p := ⟨gl, off + kx * 5 + 4, none⟩) HGW.out.1 HGW.out.2).trans hc4
        have HC := Lib.hid (And.intro hsc (HT.out.over htc HO.out))
        have hx := prto_at wc g gr gw _ _ p.x hsc rfl
        clear hd hsc htc
        go_wp2_with fail
        refine hx.mono ?_
        rintro e w' ⟨rfl, rfl⟩
        clear hx
        go_wp2
        go_roundw
        case rel => exact ⟨kx + 1, _, by omega, by go_num, HC.out.1, HF.out, HC.out.2⟩
        case measure => simp [intOf]; omega
      · by_cases k1 : kind = 1
        · subst k1
          rw [show p.next 1 n full t u = p.sample t from rfl] at hd hfx
          clear k0
          have HF := Lib.hid hfx
          have hv1 := prto_any wr g gr gw p kx hs
          have hv2 := psize_any wr g gr gw p kx hs
          clear hfx hs
          go_wp2_with fail
          refine hv1.mono ?_
          rintro e w' ⟨rfl, rfl⟩
          go_wp2_with fail
          refine hv2.mono ?_
          rintro e w' ⟨rfl, rfl⟩
          clear hv1 hv2
          go_wp2_with fail
          refine hd.mono ?_
          rintro e wc ⟨rfl, hsc, htc⟩
          replace hc0 := (htc.cell (p := ⟨gl, off + kx * 5, none⟩) HGW.out.1 HGW.out.2).trans hc0
          replace hc1 := (htc.cell (p := ⟨gl, off + kx * 5 + 1, none⟩) HGW.out.1 HGW.out.2).trans hc1
          replace hc2 := (htc.cell (p := ⟨gl, off + kx * 5 + 2, none⟩) HGW.out.1 HGW.out.2).trans hc2
          replace hc3 := (htc.cell (p := ⟨gl, off + kx * 5 + 3, none⟩) HGW.out.1 HGW.out.2).trans hc3
          replace hc4 := (htc.cell (p := ⟨gl, off + kx * 5 + 4, none⟩) HGW.out.1 HGW.out.2).trans hc4
          have HC := Lib.hid (And.intro hsc (HT.out.over htc HO.out))
          have hx := psize_at wc g gr gw _ _ p.size hsc (sample_size p t)
          clear hd hsc htc
          go_wp2_with fail
          refine hx.mono ?_
          rintro e w' ⟨rfl, rfl⟩
          clear hx
          go_wp2
          go_roundw
          case rel => exact ⟨kx + 1, _, by omega, by go_num, HC.out.1, HF.out, HC.out.2⟩
          case measure => simp [intOf]; omega
        · by_cases k2 : kind = 2
          · subst k2
            rw [show p.next 2 n full t u = p.acked n full from rfl] at hd hfx
            clear k0 k1
            have HF := Lib.hid hfx
            have hv1 := prto_any wr g gr gw p kx hs
            have hv2 := psize_any wr g gr gw p kx hs
            clear hfx hs
            go_wp2_with fail
            refine hv1.mono ?_
            rintro e w' ⟨rfl, rfl⟩
            go_wp2_with fail
            refine hv2.mono ?_
            rintro e w' ⟨rfl, rfl⟩
            clear hv1 hv2
            go_wp2_with fail
            refine hd.mono ?_
            rintro e wc ⟨rfl, hsc, htc⟩
            replace hc0 := (htc.cell (p := ⟨gl, off + kx * 5, none⟩) HGW.out.1 HGW.out.2).trans hc0
            replace hc1 := (htc.cell (p := ⟨gl, off + kx * 5 + 1, none⟩) HGW.out.1 HGW.out.2).trans hc1
            replace hc2 := (htc.cell (p := ⟨gl, off + kx * 5 + 2, none⟩) HGW.out.1 HGW.out.2).trans hc2
            replace hc3 := (htc.cell (p := ⟨gl, off + kx * 5 + 3, none⟩) HGW.out.1 HGW.out.2).trans hc3
            replace hc4 := (htc.cell (p := ⟨gl, off + kx * 5 + 4, none⟩) HGW.out.1 HGW.out.2).trans hc4
            have HC := Lib.hid (And.intro hsc (HT.out.over htc HO.out))
            have hx := prto_at wc g gr gw _ _ p.x hsc rfl
            clear hd hsc htc
            go_wp2_with fail
            refine hx.mono ?_
            rintro e w' ⟨rfl, rfl⟩
            clear hx
            go_wp2
            go_roundw
            case rel => exact ⟨kx + 1, _, by omega, by go_num, HC.out.1, HF.out, HC.out.2⟩
            case measure => simp [intOf]; omega
          · by_cases k3 : kind = 3
            · subst k3
              rw [show p.next 3 n full t u = p.fast from rfl] at hd hfx
              clear k0 k1 k2
              have HF := Lib.hid hfx
              have hv1 := prto_any wr g gr gw p kx hs
              have hv2 := psize_any wr g gr gw p kx hs
              clear hfx hs
              go_wp2_with fail
              refine hv1.mono ?_
              rintro e w' ⟨rfl, rfl⟩
              go_wp2_with fail
              refine hv2.mono ?_
              rintro e w' ⟨rfl, rfl⟩
              clear hv1 hv2
              go_wp2_with fail
              refine hd.mono ?_
              rintro e wc ⟨rfl, hsc, htc⟩
              replace hc0 := (htc.cell (p := ⟨gl, off + kx * 5, none⟩) HGW.out.1 HGW.out.2).trans hc0
              replace hc1 := (htc.cell (p := ⟨gl, off + kx * 5 + 1, none⟩) HGW.out.1 HGW.out.2).trans hc1
              replace hc2 := (htc.cell (p := ⟨gl, off + kx * 5 + 2, none⟩) HGW.out.1 HGW.out.2).trans hc2
              replace hc3 := (htc.cell (p := ⟨gl, off + kx * 5 + 3, none⟩) HGW.out.1 HGW.out.2).trans hc3
              replace hc4 := (htc.cell (p := ⟨gl, off + kx * 5 + 4, none⟩) HGW.out.1 HGW.out.2).trans hc4
              have HC := Lib.hid (And.intro hsc (HT.out.over htc HO.out))
              have hx := prto_at wc g gr gw _ _ p.x hsc rfl
              clear hd hsc htc
              go_wp2_with fail
              refine hx.mono ?_
              rintro e w' ⟨rfl, rfl⟩
              clear hx
              go_wp2
              go_roundw
              case rel => exact ⟨kx + 1, _, by omega, by go_num, HC.out.1, HF.out, HC.out.2⟩
              case measure => simp [intOf]; omega
            · by_cases k4 : kind = 4
              · subst k4
                rw [show p.next 4 n full t u = p.timeout from rfl] at hd hfx
                clear k0 k1 k2 k3
                have HF := Lib.hid hfx
                have hv1 := prto_any wr g gr gw p kx hs
                have hv2 := psize_any wr g gr gw p kx hs
                clear hfx hs
                go_wp2_with fail
                refine hv1.mono ?_
                rintro e w' ⟨rfl, rfl⟩
                go_wp2_with fail
                refine hv2.mono ?_
                rintro e w' ⟨rfl, rfl⟩
                clear hv1 hv2
                go_wp2_with fail
                refine hd.mono ?_
                rintro e wc ⟨rfl, hsc, htc⟩
                replace hc0 := (htc.cell (p := ⟨gl, off + kx * 5, none⟩) HGW.out.1 HGW.out.2).trans hc0
                replace hc1 := (htc.cell (p := ⟨gl, off + kx * 5 + 1, none⟩) HGW.out.1 HGW.out.2).trans hc1
                replace hc2 := (htc.cell (p := ⟨gl, off + kx * 5 + 2, none⟩) HGW.out.1 HGW.out.2).trans hc2
                replace hc3 := (htc.cell (p := ⟨gl, off + kx * 5 + 3, none⟩) HGW.out.1 HGW.out.2).trans hc3
                replace hc4 := (htc.cell (p := ⟨gl, off + kx * 5 + 4, none⟩) HGW.out.1 HGW.out.2).trans hc4
                have HC := Lib.hid (And.intro hsc (HT.out.over htc HO.out))
                have hx := prto_at wc g gr gw _ _ (min (2 * p.x) 60) hsc (show min (2 * p.x) p.hi = _ by rw [HH.out.2]; rfl)
                have hz2 := psize_at wc g gr gw _ _ 128 hsc HH.out.1
                clear hd hsc htc
                go_wp2_with fail
                refine hx.mono ?_
                rintro e w' ⟨rfl, rfl⟩
                clear hx
                go_wp2_with fail
                refine hz2.mono ?_
                rintro e w' ⟨rfl, rfl⟩
                clear hz2
                go_wp2
                go_roundw
                case rel => exact ⟨kx + 1, _, by omega, by go_num, HC.out.1, HF.out, HC.out.2⟩
                case measure => simp [intOf]; omega
              · by_cases k5 : kind = 5
                · subst k5
                  rw [show p.next 5 n full t u = p.beat t from rfl] at hd hfx
                  clear k0 k1 k2 k3 k4
                  have HF := Lib.hid hfx
                  have hv1 := prto_any wr g gr gw p kx hs
                  have hv2 := psize_any wr g gr gw p kx hs
                  clear hfx hs
                  go_wp2_with fail
                  refine hv1.mono ?_
                  rintro e w' ⟨rfl, rfl⟩
                  go_wp2_with fail
                  refine hv2.mono ?_
                  rintro e w' ⟨rfl, rfl⟩
                  clear hv1 hv2
                  go_wp2_with fail
                  refine hd.mono ?_
                  rintro e wc ⟨rfl, hsc, htc⟩
                  replace hc0 := (htc.cell (p := ⟨gl, off + kx * 5, none⟩) HGW.out.1 HGW.out.2).trans hc0
                  replace hc1 := (htc.cell (p := ⟨gl, off + kx * 5 + 1, none⟩) HGW.out.1 HGW.out.2).trans hc1
                  replace hc2 := (htc.cell (p := ⟨gl, off + kx * 5 + 2, none⟩) HGW.out.1 HGW.out.2).trans hc2
                  replace hc3 := (htc.cell (p := ⟨gl, off + kx * 5 + 3, none⟩) HGW.out.1 HGW.out.2).trans hc3
                  replace hc4 := (htc.cell (p := ⟨gl, off + kx * 5 + 4, none⟩) HGW.out.1 HGW.out.2).trans hc4
                  have HC := Lib.hid (And.intro hsc (HT.out.over htc HO.out))
                  have hx := psize_at wc g gr gw _ _ p.size hsc (beat_size p t)
                  clear hd hsc htc
                  go_wp2_with fail
                  refine hx.mono ?_
                  rintro e w' ⟨rfl, rfl⟩
                  clear hx
                  go_wp2
                  go_roundw
                  case rel => exact ⟨kx + 1, _, by omega, by go_num, HC.out.1, HF.out, HC.out.2⟩
                  case measure => simp [intOf]; omega
                · by_cases k6 : kind = 6
                  · subst k6
                    rw [show p.next 6 n full t u = p.beaten t u from rfl] at hd hfx
                    clear k0 k1 k2 k3 k4 k5
                    have HF := Lib.hid hfx
                    have hv1 := prto_any wr g gr gw p kx hs
                    have hv2 := psize_any wr g gr gw p kx hs
                    clear hfx hs
                    go_wp2_with fail
                    refine hv1.mono ?_
                    rintro e w' ⟨rfl, rfl⟩
                    go_wp2_with fail
                    refine hv2.mono ?_
                    rintro e w' ⟨rfl, rfl⟩
                    clear hv1 hv2
                    go_wp2_with fail
                    refine hd.mono ?_
                    rintro e wc ⟨rfl, hsc, htc⟩
                    replace hc0 := (htc.cell (p := ⟨gl, off + kx * 5, none⟩) HGW.out.1 HGW.out.2).trans hc0
                    replace hc1 := (htc.cell (p := ⟨gl, off + kx * 5 + 1, none⟩) HGW.out.1 HGW.out.2).trans hc1
                    replace hc2 := (htc.cell (p := ⟨gl, off + kx * 5 + 2, none⟩) HGW.out.1 HGW.out.2).trans hc2
                    replace hc3 := (htc.cell (p := ⟨gl, off + kx * 5 + 3, none⟩) HGW.out.1 HGW.out.2).trans hc3
                    replace hc4 := (htc.cell (p := ⟨gl, off + kx * 5 + 4, none⟩) HGW.out.1 HGW.out.2).trans hc4
                    have HC := Lib.hid (And.intro hsc (HT.out.over htc HO.out))
                    have hx := psize_at wc g gr gw _ _ p.size hsc (beaten_size p t u)
                    clear hd hsc htc
                    go_wp2_with fail
                    refine hx.mono ?_
                    rintro e w' ⟨rfl, rfl⟩
                    clear hx
                    go_wp2
                    go_roundw
                    case rel => exact ⟨kx + 1, _, by omega, by go_num, HC.out.1, HF.out, HC.out.2⟩
                    case measure => simp [intOf]; omega
                  · have e1 : p.next kind n full t u = p := by simp only [PS.next, if_neg k0, if_neg k1, if_neg k2, if_neg k3, if_neg k4, if_neg k5, if_neg k6]
                    rw [e1] at hd hfx
                    have b0 : (kind == 0) = false := by simpa using k0
                    have b1 : (kind == 1) = false := by simpa using k1
                    have b2 : (kind == 2) = false := by simpa using k2
                    have b3 : (kind == 3) = false := by simpa using k3
                    have b4 : (kind == 4) = false := by simpa using k4
                    have b5 : (kind == 5) = false := by simpa using k5
                    have b6 : (kind == 6) = false := by simpa using k6
                    clear e1 k0 k1 k2 k3 k4 k5 k6
                    have HF := Lib.hid hfx
                    have hv1 := prto_any wr g gr gw p kx hs
                    have hv2 := psize_any wr g gr gw p kx hs
                    clear hfx hs
                    go_wp2_with fail
                    refine hv1.mono ?_
                    rintro e w' ⟨rfl, rfl⟩
                    go_wp2_with fail
                    refine hv2.mono ?_
                    rintro e w' ⟨rfl, rfl⟩
                    clear hv1 hv2
                    go_wp2_with fail
                    refine hd.mono ?_
                    rintro e wc ⟨rfl, hsc, htc⟩
                    replace hc0 := (htc.cell (p := ⟨gl, off + kx * 5, none⟩) HGW.out.1 HGW.out.2).trans hc0
                    replace hc1 := (htc.cell (p := ⟨gl, off + kx * 5 + 1, none⟩) HGW.out.1 HGW.out.2).trans hc1
                    replace hc2 := (htc.cell (p := ⟨gl, off + kx * 5 + 2, none⟩) HGW.out.1 HGW.out.2).trans hc2
                    replace hc3 := (htc.cell (p := ⟨gl, off + kx * 5 + 3, none⟩) HGW.out.1 HGW.out.2).trans hc3
                    replace hc4 := (htc.cell (p := ⟨gl, off + kx * 5 + 4, none⟩) HGW.out.1 HGW.out.2).trans hc4
                    have HC := Lib.hid (And.intro hsc (HT.out.over htc HO.out))
                    clear hd hsc htc
                    go_wp2
                    go_roundw
                    case rel => exact ⟨kx + 1, _, by omega, by go_num, HC.out.1, HF.out, HC.out.2⟩
                    case measure => simp [intOf]; omega
    · obtain rfl : len = kx := by omega
      clear hT hs hfp
      go_wp2_with fail
      refine (works_any wr).mono ?_
      rintro e w6 ⟨rfl, ht6⟩
      have HT6 := Lib.hid (HT.out.trans ht6)
      clear ht6
      go_wp2
      go_ret
      exact ⟨rfl, HT6.out.below (Nat.le_refl _) (by simp)⟩

set_option maxHeartbeats 800000 in
theorem restsL (r : Int) (a : Option Addr) (len cap : Nat) (w : World) (hlen : 300 < len) :
    Calls Try.prog 7 #[.int .u8 r, .slice a len cap] w fun e w' => e = .returned (.bool true) ∧ Below w.heap.size w w' := by
  have d1 : decide (300 < (len : Int)) = true := by simp; omega
  clear hlen
  go_enter Try.func7, Try.ntmps7
  go_wp2_with fail
  refine (works_any w).mono ?_
  rintro e w1 ⟨rfl, ht1⟩
  go_wp2
  go_ret
  exact ⟨rfl, ht1.below (Nat.le_refl _) (by simp)⟩

theorem pathRests_walk (r : Int) (a : Option Addr) (len cap : Nat) (ss : List PO) (w : World) (w1 : (Lit.int .u8 r).wf = true) (hz : IsPOps w a len cap ss) :
    Calls Try.prog 7 #[.int .u8 r, .slice a len cap] w fun e w' => e = .returned (.bool true) ∧ Below w.heap.size w w' := by
  by_cases hl : len ≤ 300
  · exact restsF r a len cap _ w (wf_u8_in w1).1 (wf_u8_in w1).2 hz.1 hl
  · exact restsL r a len cap w (by omega)
end Go.Proofs.Ytkgfogepbclhkaa
