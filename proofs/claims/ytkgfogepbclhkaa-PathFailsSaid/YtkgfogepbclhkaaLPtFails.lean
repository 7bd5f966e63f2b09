/-
  The walk of PathFails. Written by genptfails.py.
-/
import Derived.Test.YtkgfogepbclhkaaPtLaw
namespace Go.Proofs.Ytkgfogepbclhkaa
open Go.RowKit
set_option linter.unusedVariables false

set_option maxRecDepth 10000 in
set_option maxHeartbeats 12800000 in
theorem failsF (r : Int) (a : Option Addr) (len cap : Nat) (ss : List PO) (w : World) (h0 : 0 ≤ r) (h1 : r ≤ 255) (hz : POpRow w a len ss) (hlen : len ≤ 300) :
    Calls Try.prog 4 #[.int .u8 r, .slice a len cap] w fun e w' => e = .returned (.bool true) ∧ Below w.heap.size w w' := by
  have hp := plain_any w r h0 h1
  have hk : 0 ≤ r % 21 ∧ r % 21 ≤ 20 := by omega
  obtain ⟨k, hkk⟩ : ∃ k, k = r % 21 := ⟨_, rfl⟩
  rw [← hkk] at hp hk
  have hn := fun W => pl_new W k hk.1 hk.2 0
  have d1 : decide (300 < (len : Int)) = false := by simp; omega
  have HZ := Lib.hid hz
  clear hz hkk h0 h1
  go_enter Try.func4, Try.ntmps4
  go_wp2_with fail
  refine hp.mono ?_
  rintro e wa ⟨rfl, hta⟩
  have hbx := cfBox wa 0 128 0 0 0 1000 3 1 60 0 0 10 k 0
  have hT1 : Turn [] wa (wa.alloc (.cells #[.int .i64 0, .int .i64 128, .int .i64 0, .int .i64 0, .int .i64 0, .int .i64 1000, .int .i64 3, .int .i64 1, .int .i64 60, .int .i64 0, .int .i64 0, .int .i64 10, .int .i64 k, .int .i64 0] 23)) := (Turn.refl _ _).alloc _
  have x0 := hbx.cell (i := 0) rfl
  have x1 := hbx.cell (i := 1) rfl
  have x2 := hbx.cell (i := 2) rfl
  have x3 := hbx.cell (i := 3) rfl
  have x4 := hbx.cell (i := 4) rfl
  have x5 := hbx.cell (i := 5) rfl
  have x6 := hbx.cell (i := 6) rfl
  have x7 := hbx.cell (i := 7) rfl
  have x8 := hbx.cell (i := 8) rfl
  have x9 := hbx.cell (i := 9) rfl
  have x10 := hbx.cell (i := 10) rfl
  have x11 := hbx.cell (i := 11) rfl
  have x12 := hbx.cell (i := 12) rfl
  have x13 := hbx.cell (i := 13) rfl
  replace hn := hn (wa.alloc (.cells #[.int .i64 0, .int .i64 128, .int .i64 0, .int .i64 0, .int .i64 0, .int .i64 1000, .int .i64 3, .int .i64 1, .int .i64 60, .int .i64 0, .int .i64 0, .int .i64 10, .int .i64 k, .int .i64 0] 23))
  have HGC := Lib.hid (And.intro (hta.trans hT1) (show wa.heap.size < (wa.alloc (.cells #[.int .i64 0, .int .i64 128, .int .i64 0, .int .i64 0, .int .i64 0, .int .i64 1000, .int .i64 3, .int .i64 1, .int .i64 60, .int .i64 0, .int .i64 0, .int .i64 10, .int .i64 k, .int .i64 0] 23)).heap.size by simp))
  have HX := Lib.hid x12
  clear hp hta hT1 hbx
  go_wp2_with fail
  refine hn.mono ?_
  rintro e w0 ⟨g, gr, gw, rfl, hs0, ht0, hg, hgr, hgw⟩
  have HGG : Hid (w.heap.size ≤ g ∧ w.heap.size ≤ gr ∧ w.heap.size ≤ gw ∧ wa.heap.size ∉ [g, gr, gw] ∧ wa.heap.size < w0.heap.size) := Lib.hid (by have := HGC.out.1.size; have := HGC.out.2; have := ht0.size; simp; omega)
  have HO : Hid (∀ j ∈ [g, gr, gw], j ∈ ([] : List Nat) ∨ w.heap.size ≤ j) := Lib.hid (by have := HGG.out; intro j hj; simp at hj; omega)
  have hcc : w0.cell? ⟨wa.heap.size, 12, none⟩ = some (.int .i64 k) := (ht0.cell (p := ⟨wa.heap.size, 12, none⟩) HGC.out.2 (by simp)).trans HX.out
  have HS0 := Lib.hid (And.intro hs0 (And.intro (HGC.out.1.trans ht0) hcc))
  clear hn ht0 hg hgr hgw hs0 hcc x0 x1 x2 x3 x4 x5 x6 x7 x8 x9 x10 x11 x12 x13
  go_wp2
  go_loopw [10, 8, 9, 11, 12, 13, 47, 49, 63, 82] (fun x y1 y2 y3 y4 y5 y6 y7 y8 y9 wr => ∃ (kx : Nat) (p : PS) (b : Int) (op : Bool), kx ≤ len ∧ x = .int .i64 (kx : Int) ∧ y1 = .int .i64 b ∧ y2 = .bool op ∧ p.bad = b ∧ p.opn = op ∧ PP wr g gr gw p kx ∧ Fix (pl k) p ∧ Turn [] w wr ∧ wr.cell? ⟨wa.heap.size, 12, none⟩ = some (.int .i64 k) ∧ wa.heap.size < wr.heap.size) (fun x _ _ _ _ _ _ _ _ _ _ => len - (intOf x).toNat)
  case atStart => exact ⟨0, _, 0, false, by omega, rfl, rfl, rfl, rfl, rfl, HS0.out.1, Fix.refl _, HS0.out.2.1, HS0.out.2.2, HGG.out.2.2.2.2⟩
  case round =>
    obtain ⟨kx, p, b, op, hi', rfl, rfl, rfl, hpb, hpo, hs, hfp, hT, hcc, hgcl⟩ := hrel
    have HT := Lib.hid hT
    by_cases hil : kx < len
    · obtain ⟨⟨kind, n, full, t, u⟩, hzi⟩ : ∃ z, ss[kx]? = some z := ⟨ss[kx]'(by rw [HZ.out.1]; exact hil), by simp [HZ.out.1, hil]⟩
      obtain ⟨hwt, hwu, gl, off, rfl, hgl, hc0, hc1, hc2, hc3, hc4⟩ := HZ.out.2 kx _ hzi
      simp only at hwt hwu hc0 hc1 hc2 hc3 hc4
      replace hc0 := (hT.cell (p := ⟨gl, off + kx * 5, none⟩) hgl (by simp)).trans hc0
      replace hc1 := (hT.cell (p := ⟨gl, off + kx * 5 + 1, none⟩) hgl (by simp)).trans hc1
      replace hc2 := (hT.cell (p := ⟨gl, off + kx * 5 + 2, none⟩) hgl (by simp)).trans hc2
      replace hc3 := (hT.cell (p := ⟨gl, off + kx * 5 + 3, none⟩) hgl (by simp)).trans hc3
      replace hc4 := (hT.cell (p := ⟨gl, off + kx * 5 + 4, none⟩) hgl (by simp)).trans hc4
      -- the thing to do, in a box of its own
      have hbx := opBox wr kind n full t u
      have c0 := hbx.cell (i := 0) rfl
      have c1 := hbx.cell (i := 1) rfl
      have c2 := hbx.cell (i := 2) rfl
      have c3 := hbx.cell (i := 3) rfl
      have c4 := hbx.cell (i := 4) rfl
      have hta : Turn [] wr (wr.alloc (.cells #[.int .i64 kind, .int .i64 n, .bool full, .int .i64 t, .int .i64 u] 36)) := (Turn.refl _ _).alloc _
      have cc1 := (hta.cell (p := ⟨wa.heap.size, 12, none⟩) hgcl (by simp)).trans hcc
      have HGW : Hid (wr.heap.size < (wr.alloc (.cells #[.int .i64 kind, .int .i64 n, .bool full, .int .i64 t, .int .i64 u] 36)).heap.size ∧ wr.heap.size ∉ [g, gr, gw] ∧ wa.heap.size < (wr.alloc (.cells #[.int .i64 kind, .int .i64 n, .bool full, .int .i64 t, .int .i64 u] 36)).heap.size ∧ wa.heap.size ∉ [g, gr, gw]) := Lib.hid ⟨by simp, by have := hs.lt; simp; omega, by simp; omega, HGG.out.2.2.2.1⟩
      have HT1 := Lib.hid (HT.out.trans hta)
      have hsa := hs.turn hta (by simp) (by simp) (by simp)
      have hd := fun m => pdoes_any ((wr.alloc (.cells #[.int .i64 kind, .int .i64 n, .bool full, .int .i64 t, .int .i64 u] 36)).drewN m) g gr gw p kx kind n full t u (by omega) hwt hwu (hsa.drawn m)
      obtain ⟨du, hdu⟩ : ∃ du, p.due = du := ⟨_, rfl⟩
      have HW := Lib.hid (fun m => pwhen_at ((wr.alloc (.cells #[.int .i64 kind, .int .i64 n, .bool full, .int .i64 t, .int .i64 u] 36)).drewN m) g gr gw p kx du (hsa.drawn m) hdu)
      have hfx := hfp.trans (fix_next p kind n full t u)
      have hpm : p.may = k := hfp.may
      have hgd := hs.good
      have hbb : 0 ≤ b ∧ b ≤ 21 := by have := hgd.bad0; have := hgd.bad1; have := hgd.may1; omega
      clear hT hwt hwu hgl hzi hfp hbx hta hsa hs hcc hgcl
      by_cases k0 : kind = 0
      · subst k0
        have hqb : (p.answered).bad = 0 := rfl
        have hqo : (p.answered).opn = false := rfl
        rw [show p.next 0 n full t u = p.answered from rfl] at hd hfx
        rw [show p.out 0 t u = false from rfl] at hd
        have hqm : (p.answered).may = k := hfx.may
        obtain ⟨q, hqe⟩ : ∃ q, q = p.answered := ⟨_, rfl⟩
        rw [← hqe] at hqb hqo hqm hd hfx
        have hqa : q.active = true := by unfold PS.active; rw [hqb, hqm]; simpa using hk.1
        have HQ := Lib.hid (And.intro hqb (And.intro hqo (And.intro hqa hfx)))
        clear hqb hqo hqm hqa hfx hqe hgd hpb hpo
        go_upto_region 13 with fail
        go_quiet (first | (go_at_call 16; exact pt_quiet (HW.out _)))
        go_wp2_with fail
        refine (hd nq).mono ?_
        rintro e wc ⟨rfl, hsc, htc⟩
        have e0 := (htc.cell (p := ⟨wr.heap.size, 0, none⟩) HGW.out.1 HGW.out.2.1).trans c0
        have e1 := (htc.cell (p := ⟨wr.heap.size, 1, none⟩) HGW.out.1 HGW.out.2.1).trans c1
        have e2 := (htc.cell (p := ⟨wr.heap.size, 2, none⟩) HGW.out.1 HGW.out.2.1).trans c2
        have e3 := (htc.cell (p := ⟨wr.heap.size, 3, none⟩) HGW.out.1 HGW.out.2.1).trans c3
        have e4 := (htc.cell (p := ⟨wr.heap.size, 4, none⟩) HGW.out.1 HGW.out.2.1).trans c4
        have ec := (htc.cell (p := ⟨wa.heap.size, 12, none⟩) HGW.out.2.2.1 HGW.out.2.2.2).trans cc1
        have HC := Lib.hid (And.intro hsc (And.intro ((HT1.out.drewN nq).over htc HO.out) (And.intro ec (Nat.lt_of_lt_of_le HGW.out.2.2.1 htc.size))))
        have HF := Lib.hid (fun m => pfailures_at (wc.drewN m) g gr gw q (kx + 1) _ (hsc.drawn m) HQ.out.1)
        have HA := Lib.hid (fun m => pactive_at (wc.drewN m) g gr gw q (kx + 1) _ (hsc.drawn m) HQ.out.2.2.1)
        clear hd hsc htc c0 c1 c2 c3 c4 cc1 hc0 hc1 hc2 hc3 hc4
        go_upto_region 35 with fail
        go_quiet (first | (go_at_call 17; exact pt_quiet (HF.out _)) | (go_at_call 18; exact pt_quiet2 (HA.out _)))
        go_wp2
        go_roundw
        case rel => exact ⟨kx + 1, q, _, _, by omega, by go_num, rfl, rfl, HQ.out.1, HQ.out.2.1, HC.out.1.drawn nq, HQ.out.2.2.2, HC.out.2.1.drewN nq, HC.out.2.2.1, HC.out.2.2.2⟩
        case measure => simp [intOf]; omega
      · by_cases k1 : kind = 1
        · subst k1
          clear k0
          have hqb : (p.sample t).bad = b := (sample_bad p t).trans hpb
          have hqo : (p.sample t).opn = op := (sample_opn p t).trans hpo
          rw [show p.next 1 n full t u = p.sample t from rfl] at hd hfx
          rw [show p.out 1 t u = false from rfl] at hd
          have hqm : (p.sample t).may = k := hfx.may
          obtain ⟨q, hqe⟩ : ∃ q, q = p.sample t := ⟨_, rfl⟩
          rw [← hqe] at hqb hqo hqm hd hfx
          obtain ⟨bact, hba⟩ : ∃ bz : Bool, decide (b ≤ k) = bz := ⟨_, rfl⟩
          have hqa : q.active = bact := by unfold PS.active; rw [hqb, hqm]; exact hba
          have HQ := Lib.hid (And.intro hqb (And.intro hqo (And.intro hqa hfx)))
          clear hqb hqo hqm hqa hfx hqe hgd hpb hpo
          go_upto_region 13 with fail
          go_quiet (first | (go_at_call 16; exact pt_quiet (HW.out _)))
          go_wp2_with fail
          refine (hd nq).mono ?_
          rintro e wc ⟨rfl, hsc, htc⟩
          have e0 := (htc.cell (p := ⟨wr.heap.size, 0, none⟩) HGW.out.1 HGW.out.2.1).trans c0
          have e1 := (htc.cell (p := ⟨wr.heap.size, 1, none⟩) HGW.out.1 HGW.out.2.1).trans c1
          have e2 := (htc.cell (p := ⟨wr.heap.size, 2, none⟩) HGW.out.1 HGW.out.2.1).trans c2
          have e3 := (htc.cell (p := ⟨wr.heap.size, 3, none⟩) HGW.out.1 HGW.out.2.1).trans c3
          have e4 := (htc.cell (p := ⟨wr.heap.size, 4, none⟩) HGW.out.1 HGW.out.2.1).trans c4
          have ec := (htc.cell (p := ⟨wa.heap.size, 12, none⟩) HGW.out.2.2.1 HGW.out.2.2.2).trans cc1
          have HC := Lib.hid (And.intro hsc (And.intro ((HT1.out.drewN nq).over htc HO.out) (And.intro ec (Nat.lt_of_lt_of_le HGW.out.2.2.1 htc.size))))
          have HF := Lib.hid (fun m => pfailures_at (wc.drewN m) g gr gw q (kx + 1) _ (hsc.drawn m) HQ.out.1)
          have HA := Lib.hid (fun m => pactive_at (wc.drewN m) g gr gw q (kx + 1) _ (hsc.drawn m) HQ.out.2.2.1)
          clear hd hsc htc c0 c1 c2 c3 c4 cc1 hc0 hc1 hc2 hc3 hc4
          go_upto_region 35 with fail
          go_quiet (first | (go_at_call 17; exact pt_quiet (HF.out _)) | (go_at_call 18; exact pt_quiet2 (HA.out _)))
          go_wp2
          go_roundw
          case rel => exact ⟨kx + 1, q, _, _, by omega, by go_num, rfl, rfl, HQ.out.1, HQ.out.2.1, HC.out.1.drawn nq, HQ.out.2.2.2, HC.out.2.1.drewN nq, HC.out.2.2.1, HC.out.2.2.2⟩
          case measure => simp [intOf]; omega
        · by_cases k2 : kind = 2
          · subst k2
            clear k0 k1
            have hqb : (p.acked n full).bad = b := hpb
            have hqo : (p.acked n full).opn = op := hpo
            rw [show p.next 2 n full t u = p.acked n full from rfl] at hd hfx
            rw [show p.out 2 t u = false from rfl] at hd
            have hqm : (p.acked n full).may = k := hfx.may
            obtain ⟨q, hqe⟩ : ∃ q, q = p.acked n full := ⟨_, rfl⟩
            rw [← hqe] at hqb hqo hqm hd hfx
            obtain ⟨bact, hba⟩ : ∃ bz : Bool, decide (b ≤ k) = bz := ⟨_, rfl⟩
            have hqa : q.active = bact := by unfold PS.active; rw [hqb, hqm]; exact hba
            have HQ := Lib.hid (And.intro hqb (And.intro hqo (And.intro hqa hfx)))
            clear hqb hqo hqm hqa hfx hqe hgd hpb hpo
            go_upto_region 13 with fail
            go_quiet (first | (go_at_call 16; exact pt_quiet (HW.out _)))
            go_wp2_with fail
            refine (hd nq).mono ?_
            rintro e wc ⟨rfl, hsc, htc⟩
            have e0 := (htc.cell (p := ⟨wr.heap.size, 0, none⟩) HGW.out.1 HGW.out.2.1).trans c0
            have e1 := (htc.cell (p := ⟨wr.heap.size, 1, none⟩) HGW.out.1 HGW.out.2.1).trans c1
            have e2 := (htc.cell (p := ⟨wr.heap.size, 2, none⟩) HGW.out.1 HGW.out.2.1).trans c2
            have e3 := (htc.cell (p := ⟨wr.heap.size, 3, none⟩) HGW.out.1 HGW.out.2.1).trans c3
            have e4 := (htc.cell (p := ⟨wr.heap.size, 4, none⟩) HGW.out.1 HGW.out.2.1).trans c4
            have ec := (htc.cell (p := ⟨wa.heap.size, 12, none⟩) HGW.out.2.2.1 HGW.out.2.2.2).trans cc1
            have HC := Lib.hid (And.intro hsc (And.intro ((HT1.out.drewN nq).over htc HO.out) (And.intro ec (Nat.lt_of_lt_of_le HGW.out.2.2.1 htc.size))))
            have HF := Lib.hid (fun m => pfailures_at (wc.drewN m) g gr gw q (kx + 1) _ (hsc.drawn m) HQ.out.1)
            have HA := Lib.hid (fun m => pactive_at (wc.drewN m) g gr gw q (kx + 1) _ (hsc.drawn m) HQ.out.2.2.1)
            clear hd hsc htc c0 c1 c2 c3 c4 cc1 hc0 hc1 hc2 hc3 hc4
            go_upto_region 35 with fail
            go_quiet (first | (go_at_call 17; exact pt_quiet (HF.out _)) | (go_at_call 18; exact pt_quiet2 (HA.out _)))
            go_wp2
            go_roundw
            case rel => exact ⟨kx + 1, q, _, _, by omega, by go_num, rfl, rfl, HQ.out.1, HQ.out.2.1, HC.out.1.drawn nq, HQ.out.2.2.2, HC.out.2.1.drewN nq, HC.out.2.2.1, HC.out.2.2.2⟩
            case measure => simp [intOf]; omega
          · by_cases k3 : kind = 3
            · subst k3
              clear k0 k1 k2
              have hqb : (p.fast).bad = b := hpb
              have hqo : (p.fast).opn = op := hpo
              rw [show p.next 3 n full t u = p.fast from rfl] at hd hfx
              rw [show p.out 3 t u = false from rfl] at hd
              have hqm : (p.fast).may = k := hfx.may
              obtain ⟨q, hqe⟩ : ∃ q, q = p.fast := ⟨_, rfl⟩
              rw [← hqe] at hqb hqo hqm hd hfx
              obtain ⟨bact, hba⟩ : ∃ bz : Bool, decide (b ≤ k) = bz := ⟨_, rfl⟩
              have hqa : q.active = bact := by unfold PS.active; rw [hqb, hqm]; exact hba
              have HQ := Lib.hid (And.intro hqb (And.intro hqo (And.intro hqa hfx)))
              clear hqb hqo hqm hqa hfx hqe hgd hpb hpo
              go_upto_region 13 with fail
              go_quiet (first | (go_at_call 16; exact pt_quiet (HW.out _)))
              go_wp2_with fail
              refine (hd nq).mono ?_
              rintro e wc ⟨rfl, hsc, htc⟩
              have e0 := (htc.cell (p := ⟨wr.heap.size, 0, none⟩) HGW.out.1 HGW.out.2.1).trans c0
              have e1 := (htc.cell (p := ⟨wr.heap.size, 1, none⟩) HGW.out.1 HGW.out.2.1).trans c1
              have e2 := (htc.cell (p := ⟨wr.heap.size, 2, none⟩) HGW.out.1 HGW.out.2.1).trans c2
              have e3 := (htc.cell (p := ⟨wr.heap.size, 3, none⟩) HGW.out.1 HGW.out.2.1).trans c3
              have e4 := (htc.cell (p := ⟨wr.heap.size, 4, none⟩) HGW.out.1 HGW.out.2.1).trans c4
              have ec := (htc.cell (p := ⟨wa.heap.size, 12, none⟩) HGW.out.2.2.1 HGW.out.2.2.2).trans cc1
              have HC := Lib.hid (And.intro hsc (And.intro ((HT1.out.drewN nq).over htc HO.out) (And.intro ec (Nat.lt_of_lt_of_le HGW.out.2.2.1 htc.size))))
              have HF := Lib.hid (fun m => pfailures_at (wc.drewN m) g gr gw q (kx + 1) _ (hsc.drawn m) HQ.out.1)
              have HA := Lib.hid (fun m => pactive_at (wc.drewN m) g gr gw q (kx + 1) _ (hsc.drawn m) HQ.out.2.2.1)
              clear hd hsc htc c0 c1 c2 c3 c4 cc1 hc0 hc1 hc2 hc3 hc4
              go_upto_region 35 with fail
              go_quiet (first | (go_at_call 17; exact pt_quiet (HF.out _)) | (go_at_call 18; exact pt_quiet2 (HA.out _)))
              go_wp2
              go_roundw
              case rel => exact ⟨kx + 1, q, _, _, by omega, by go_num, rfl, rfl, HQ.out.1, HQ.out.2.1, HC.out.1.drawn nq, HQ.out.2.2.2, HC.out.2.1.drewN nq, HC.out.2.2.1, HC.out.2.2.2⟩
              case measure => simp [intOf]; omega
            · by_cases k4 : kind = 4
              · subst k4
                clear k0 k1 k2 k3
                by_cases hbk : b = k
                · have hbe : (b == k) = true := by simpa using hbk
                  have hqb : (p.timeout).bad = min b k + 1 := by rw [show p.timeout.bad = min p.bad p.may + 1 from rfl, hpb, hpm]
                  have hqo : (p.timeout).opn = op := hpo
                  rw [show p.next 4 n full t u = p.timeout from rfl] at hd hfx
                  rw [show p.out 4 t u = true from by rw [show p.out 4 t u = p.tells from rfl, tells_iff hgd, hpb, hpm]; simpa using hbk] at hd
                  have hqm : (p.timeout).may = k := hfx.may
                  obtain ⟨q, hqe⟩ : ∃ q, q = p.timeout := ⟨_, rfl⟩
                  rw [← hqe] at hqb hqo hqm hd hfx
                  obtain ⟨bact, hba⟩ : ∃ bz : Bool, decide (min b k + 1 ≤ k) = bz := ⟨_, rfl⟩
                  have hqa : q.active = bact := by unfold PS.active; rw [hqb, hqm]; exact hba
                  have HQ := Lib.hid (And.intro hqb (And.intro hqo (And.intro hqa hfx)))
                  clear hqb hqo hqm hqa hfx hqe hgd hpb hpo hbk
                  go_upto_region 13 with fail
                  go_quiet (first | (go_at_call 16; exact pt_quiet (HW.out _)))
                  go_wp2_with fail
                  refine (hd nq).mono ?_
                  rintro e wc ⟨rfl, hsc, htc⟩
                  have e0 := (htc.cell (p := ⟨wr.heap.size, 0, none⟩) HGW.out.1 HGW.out.2.1).trans c0
                  have e1 := (htc.cell (p := ⟨wr.heap.size, 1, none⟩) HGW.out.1 HGW.out.2.1).trans c1
                  have e2 := (htc.cell (p := ⟨wr.heap.size, 2, none⟩) HGW.out.1 HGW.out.2.1).trans c2
                  have e3 := (htc.cell (p := ⟨wr.heap.size, 3, none⟩) HGW.out.1 HGW.out.2.1).trans c3
                  have e4 := (htc.cell (p := ⟨wr.heap.size, 4, none⟩) HGW.out.1 HGW.out.2.1).trans c4
                  have ec := (htc.cell (p := ⟨wa.heap.size, 12, none⟩) HGW.out.2.2.1 HGW.out.2.2.2).trans cc1
                  have HC := Lib.hid (And.intro hsc (And.intro ((HT1.out.drewN nq).over htc HO.out) (And.intro ec (Nat.lt_of_lt_of_le HGW.out.2.2.1 htc.size))))
                  have HF := Lib.hid (fun m => pfailures_at (wc.drewN m) g gr gw q (kx + 1) _ (hsc.drawn m) HQ.out.1)
                  have HA := Lib.hid (fun m => pactive_at (wc.drewN m) g gr gw q (kx + 1) _ (hsc.drawn m) HQ.out.2.2.1)
                  clear hd hsc htc c0 c1 c2 c3 c4 cc1 hc0 hc1 hc2 hc3 hc4
                  go_upto_region 35 with fail
                  go_quiet (first | (go_at_call 17; exact pt_quiet (HF.out _)) | (go_at_call 18; exact pt_quiet2 (HA.out _)))
                  go_wp2
                  go_roundw
                  case rel => exact ⟨kx + 1, q, _, _, by omega, by go_num, rfl, rfl, HQ.out.1, HQ.out.2.1, HC.out.1.drawn nq, HQ.out.2.2.2, HC.out.2.1.drewN nq, HC.out.2.2.1, HC.out.2.2.2⟩
                  case measure => simp [intOf]; omega
                · have hbe : (b == k) = false := by simpa using hbk
                  have hqb : (p.timeout).bad = min b k + 1 := by rw [show p.timeout.bad = min p.bad p.may + 1 from rfl, hpb, hpm]
                  have hqo : (p.timeout).opn = op := hpo
                  rw [show p.next 4 n full t u = p.timeout from rfl] at hd hfx
                  rw [show p.out 4 t u = false from by rw [show p.out 4 t u = p.tells from rfl, tells_iff hgd, hpb, hpm]; simpa using hbk] at hd
                  have hqm : (p.timeout).may = k := hfx.may
                  obtain ⟨q, hqe⟩ : ∃ q, q = p.timeout := ⟨_, rfl⟩
                  rw [← hqe] at hqb hqo hqm hd hfx
                  obtain ⟨bact, hba⟩ : ∃ bz : Bool, decide (min b k + 1 ≤ k) = bz := ⟨_, rfl⟩
                  have hqa : q.active = bact := by unfold PS.active; rw [hqb, hqm]; exact hba
                  have HQ := Lib.hid (And.intro hqb (And.intro hqo (And.intro hqa hfx)))
                  clear hqb hqo hqm hqa hfx hqe hgd hpb hpo hbk
                  go_upto_region 13 with fail
                  go_quiet (first | (go_at_call 16; exact pt_quiet (HW.out _)))
                  go_wp2_with fail
                  refine (hd nq).mono ?_
                  rintro e wc ⟨rfl, hsc, htc⟩
                  have e0 := (htc.cell (p := ⟨wr.heap.size, 0, none⟩) HGW.out.1 HGW.out.2.1).trans c0
                  have e1 := (htc.cell (p := ⟨wr.heap.size, 1, none⟩) HGW.out.1 HGW.out.2.1).trans c1
                  have e2 := (htc.cell (p := ⟨wr.heap.size, 2, none⟩) HGW.out.1 HGW.out.2.1).trans c2
                  have e3 := (htc.cell (p := ⟨wr.heap.size, 3, none⟩) HGW.out.1 HGW.out.2.1).trans c3
                  have e4 := (htc.cell (p := ⟨wr.heap.size, 4, none⟩) HGW.out.1 HGW.out.2.1).trans c4
                  have ec := (htc.cell (p := ⟨wa.heap.size, 12, none⟩) HGW.out.2.2.1 HGW.out.2.2.2).trans cc1
                  have HC := Lib.hid (And.intro hsc (And.intro ((HT1.out.drewN nq).over htc HO.out) (And.intro ec (Nat.lt_of_lt_of_le HGW.out.2.2.1 htc.size))))
                  have HF := Lib.hid (fun m => pfailures_at (wc.drewN m) g gr gw q (kx + 1) _ (hsc.drawn m) HQ.out.1)
                  have HA := Lib.hid (fun m => pactive_at (wc.drewN m) g gr gw q (kx + 1) _ (hsc.drawn m) HQ.out.2.2.1)
                  clear hd hsc htc c0 c1 c2 c3 c4 cc1 hc0 hc1 hc2 hc3 hc4
                  go_upto_region 35 with fail
                  go_quiet (first | (go_at_call 17; exact pt_quiet (HF.out _)) | (go_at_call 18; exact pt_quiet2 (HA.out _)))
                  go_wp2
                  go_roundw
                  case rel => exact ⟨kx + 1, q, _, _, by omega, by go_num, rfl, rfl, HQ.out.1, HQ.out.2.1, HC.out.1.drawn nq, HQ.out.2.2.2, HC.out.2.1.drewN nq, HC.out.2.2.1, HC.out.2.2.2⟩
                  case measure => simp [intOf]; omega
              · by_cases k5 : kind = 5
                · subst k5
                  clear k0 k1 k2 k3 k4
                  obtain ⟨dt, hdt⟩ : ∃ bz : Bool, decide (du ≤ t) = bz := ⟨_, rfl⟩
                  cases op
                  · cases dt
                    · have hbq : p.isDue t = false := by unfold PS.isDue; rw [hdu]; exact hdt
                      have hqb : (p.beat t).bad = b := by rw [show (p.beat t) = p by unfold PS.beat; rw [hbq]; rfl]; exact hpb
                      have hqo : (p.beat t).opn = false := by rw [show (p.beat t) = p by unfold PS.beat; rw [hbq]; rfl]; exact hpo
                      rw [show p.next 5 n full t u = p.beat t from rfl] at hd hfx
                      rw [show p.out 5 t u = false from hbq] at hd
                      have hqm : (p.beat t).may = k := hfx.may
                      obtain ⟨q, hqe⟩ : ∃ q, q = p.beat t := ⟨_, rfl⟩
                      rw [← hqe] at hqb hqo hqm hd hfx
                      obtain ⟨bact, hba⟩ : ∃ bz : Bool, decide (b ≤ k) = bz := ⟨_, rfl⟩
                      have hqa : q.active = bact := by unfold PS.active; rw [hqb, hqm]; exact hba
                      have HQ := Lib.hid (And.intro hqb (And.intro hqo (And.intro hqa hfx)))
                      clear hqb hqo hqm hqa hfx hqe hgd hpb hpo hbq
                      go_upto_region 13 with fail
                      go_quiet (first | (go_at_call 16; exact pt_quiet (HW.out _)))
                      go_wp2_with fail
                      refine (hd nq).mono ?_
                      rintro e wc ⟨rfl, hsc, htc⟩
                      have e0 := (htc.cell (p := ⟨wr.heap.size, 0, none⟩) HGW.out.1 HGW.out.2.1).trans c0
                      have e1 := (htc.cell (p := ⟨wr.heap.size, 1, none⟩) HGW.out.1 HGW.out.2.1).trans c1
                      have e2 := (htc.cell (p := ⟨wr.heap.size, 2, none⟩) HGW.out.1 HGW.out.2.1).trans c2
                      have e3 := (htc.cell (p := ⟨wr.heap.size, 3, none⟩) HGW.out.1 HGW.out.2.1).trans c3
                      have e4 := (htc.cell (p := ⟨wr.heap.size, 4, none⟩) HGW.out.1 HGW.out.2.1).trans c4
                      have ec := (htc.cell (p := ⟨wa.heap.size, 12, none⟩) HGW.out.2.2.1 HGW.out.2.2.2).trans cc1
                      have HC := Lib.hid (And.intro hsc (And.intro ((HT1.out.drewN nq).over htc HO.out) (And.intro ec (Nat.lt_of_lt_of_le HGW.out.2.2.1 htc.size))))
                      have HF := Lib.hid (fun m => pfailures_at (wc.drewN m) g gr gw q (kx + 1) _ (hsc.drawn m) HQ.out.1)
                      have HA := Lib.hid (fun m => pactive_at (wc.drewN m) g gr gw q (kx + 1) _ (hsc.drawn m) HQ.out.2.2.1)
                      clear hd hsc htc c0 c1 c2 c3 c4 cc1 hc0 hc1 hc2 hc3 hc4
                      go_upto_region 35 with fail
                      go_quiet (first | (go_at_call 17; exact pt_quiet (HF.out _)) | (go_at_call 18; exact pt_quiet2 (HA.out _)))
                      go_wp2
                      go_roundw
                      case rel => exact ⟨kx + 1, q, _, _, by omega, by go_num, rfl, rfl, HQ.out.1, HQ.out.2.1, HC.out.1.drawn nq, HQ.out.2.2.2, HC.out.2.1.drewN nq, HC.out.2.2.1, HC.out.2.2.2⟩
                      case measure => simp [intOf]; omega
                    · have hbq : p.isDue t = true := by unfold PS.isDue; rw [hdu]; exact hdt
                      have hqb : (p.beat t).bad = b := by rw [show (p.beat t) = p.late.sent t by unfold PS.beat; rw [hbq]; rfl, show p.late = p by unfold PS.late; rw [hpo]; rfl]; exact hpb
                      have hqo : (p.beat t).opn = true := by rw [show (p.beat t) = p.late.sent t by unfold PS.beat; rw [hbq]; rfl]; rfl
                      rw [show p.next 5 n full t u = p.beat t from rfl] at hd hfx
                      rw [show p.out 5 t u = true from hbq] at hd
                      have hqm : (p.beat t).may = k := hfx.may
                      obtain ⟨q, hqe⟩ : ∃ q, q = p.beat t := ⟨_, rfl⟩
                      rw [← hqe] at hqb hqo hqm hd hfx
                      obtain ⟨bact, hba⟩ : ∃ bz : Bool, decide (b ≤ k) = bz := ⟨_, rfl⟩
                      have hqa : q.active = bact := by unfold PS.active; rw [hqb, hqm]; exact hba
                      have HQ := Lib.hid (And.intro hqb (And.intro hqo (And.intro hqa hfx)))
                      clear hqb hqo hqm hqa hfx hqe hgd hpb hpo hbq
                      go_upto_region 13 with fail
                      go_quiet (first | (go_at_call 16; exact pt_quiet (HW.out _)))
                      go_wp2_with fail
                      refine (hd nq).mono ?_
                      rintro e wc ⟨rfl, hsc, htc⟩
                      have e0 := (htc.cell (p := ⟨wr.heap.size, 0, none⟩) HGW.out.1 HGW.out.2.1).trans c0
                      have e1 := (htc.cell (p := ⟨wr.heap.size, 1, none⟩) HGW.out.1 HGW.out.2.1).trans c1
                      have e2 := (htc.cell (p := ⟨wr.heap.size, 2, none⟩) HGW.out.1 HGW.out.2.1).trans c2
                      have e3 := (htc.cell (p := ⟨wr.heap.size, 3, none⟩) HGW.out.1 HGW.out.2.1).trans c3
                      have e4 := (htc.cell (p := ⟨wr.heap.size, 4, none⟩) HGW.out.1 HGW.out.2.1).trans c4
                      have ec := (htc.cell (p := ⟨wa.heap.size, 12, none⟩) HGW.out.2.2.1 HGW.out.2.2.2).trans cc1
                      have HC := Lib.hid (And.intro hsc (And.intro ((HT1.out.drewN nq).over htc HO.out) (And.intro ec (Nat.lt_of_lt_of_le HGW.out.2.2.1 htc.size))))
                      have HF := Lib.hid (fun m => pfailures_at (wc.drewN m) g gr gw q (kx + 1) _ (hsc.drawn m) HQ.out.1)
                      have HA := Lib.hid (fun m => pactive_at (wc.drewN m) g gr gw q (kx + 1) _ (hsc.drawn m) HQ.out.2.2.1)
                      clear hd hsc htc c0 c1 c2 c3 c4 cc1 hc0 hc1 hc2 hc3 hc4
                      go_upto_region 35 with fail
                      go_quiet (first | (go_at_call 17; exact pt_quiet (HF.out _)) | (go_at_call 18; exact pt_quiet2 (HA.out _)))
                      go_wp2
                      go_roundw
                      case rel => exact ⟨kx + 1, q, _, _, by omega, by go_num, rfl, rfl, HQ.out.1, HQ.out.2.1, HC.out.1.drawn nq, HQ.out.2.2.2, HC.out.2.1.drewN nq, HC.out.2.2.1, HC.out.2.2.2⟩
                      case measure => simp [intOf]; omega
                  · cases dt
                    · have hbq : p.isDue t = false := by unfold PS.isDue; rw [hdu]; exact hdt
                      have hqb : (p.beat t).bad = b := by rw [show (p.beat t) = p by unfold PS.beat; rw [hbq]; rfl]; exact hpb
                      have hqo : (p.beat t).opn = true := by rw [show (p.beat t) = p by unfold PS.beat; rw [hbq]; rfl]; exact hpo
                      rw [show p.next 5 n full t u = p.beat t from rfl] at hd hfx
                      rw [show p.out 5 t u = false from hbq] at hd
                      have hqm : (p.beat t).may = k := hfx.may
                      obtain ⟨q, hqe⟩ : ∃ q, q = p.beat t := ⟨_, rfl⟩
                      rw [← hqe] at hqb hqo hqm hd hfx
                      obtain ⟨bact, hba⟩ : ∃ bz : Bool, decide (b ≤ k) = bz := ⟨_, rfl⟩
                      have hqa : q.active = bact := by unfold PS.active; rw [hqb, hqm]; exact hba
                      have HQ := Lib.hid (And.intro hqb (And.intro hqo (And.intro hqa hfx)))
                      clear hqb hqo hqm hqa hfx hqe hgd hpb hpo hbq
                      go_upto_region 13 with fail
                      go_quiet (first | (go_at_call 16; exact pt_quiet (HW.out _)))
                      go_wp2_with fail
                      refine (hd nq).mono ?_
                      rintro e wc ⟨rfl, hsc, htc⟩
                      have e0 := (htc.cell (p := ⟨wr.heap.size, 0, none⟩) HGW.out.1 HGW.out.2.1).trans c0
                      have e1 := (htc.cell (p := ⟨wr.heap.size, 1, none⟩) HGW.out.1 HGW.out.2.1).trans c1
                      have e2 := (htc.cell (p := ⟨wr.heap.size, 2, none⟩) HGW.out.1 HGW.out.2.1).trans c2
                      have e3 := (htc.cell (p := ⟨wr.heap.size, 3, none⟩) HGW.out.1 HGW.out.2.1).trans c3
                      have e4 := (htc.cell (p := ⟨wr.heap.size, 4, none⟩) HGW.out.1 HGW.out.2.1).trans c4
                      have ec := (htc.cell (p := ⟨wa.heap.size, 12, none⟩) HGW.out.2.2.1 HGW.out.2.2.2).trans cc1
                      have HC := Lib.hid (And.intro hsc (And.intro ((HT1.out.drewN nq).over htc HO.out) (And.intro ec (Nat.lt_of_lt_of_le HGW.out.2.2.1 htc.size))))
                      have HF := Lib.hid (fun m => pfailures_at (wc.drewN m) g gr gw q (kx + 1) _ (hsc.drawn m) HQ.out.1)
                      have HA := Lib.hid (fun m => pactive_at (wc.drewN m) g gr gw q (kx + 1) _ (hsc.drawn m) HQ.out.2.2.1)
                      clear hd hsc htc c0 c1 c2 c3 c4 cc1 hc0 hc1 hc2 hc3 hc4
                      go_upto_region 35 with fail
                      go_quiet (first | (go_at_call 17; exact pt_quiet (HF.out _)) | (go_at_call 18; exact pt_quiet2 (HA.out _)))
                      go_wp2
                      go_roundw
                      case rel => exact ⟨kx + 1, q, _, _, by omega, by go_num, rfl, rfl, HQ.out.1, HQ.out.2.1, HC.out.1.drawn nq, HQ.out.2.2.2, HC.out.2.1.drewN nq, HC.out.2.2.1, HC.out.2.2.2⟩
                      case measure => simp [intOf]; omega
                    · have hbq : p.isDue t = true := by unfold PS.isDue; rw [hdu]; exact hdt
                      have hqb : (p.beat t).bad = min b k + 1 := by rw [show (p.beat t) = p.late.sent t by unfold PS.beat; rw [hbq]; rfl, show p.late = p.fail by unfold PS.late; rw [hpo]; rfl, show (p.fail.sent t).bad = min p.bad p.may + 1 from rfl, hpb, hpm]
                      have hqo : (p.beat t).opn = true := by rw [show (p.beat t) = p.late.sent t by unfold PS.beat; rw [hbq]; rfl]; rfl
                      rw [show p.next 5 n full t u = p.beat t from rfl] at hd hfx
                      rw [show p.out 5 t u = true from hbq] at hd
                      have hqm : (p.beat t).may = k := hfx.may
                      obtain ⟨q, hqe⟩ : ∃ q, q = p.beat t := ⟨_, rfl⟩
                      rw [← hqe] at hqb hqo hqm hd hfx
                      obtain ⟨bact, hba⟩ : ∃ bz : Bool, decide (min b k + 1 ≤ k) = bz := ⟨_, rfl⟩
                      have hqa : q.active = bact := by unfold PS.active; rw [hqb, hqm]; exact hba
                      have HQ := Lib.hid (And.intro hqb (And.intro hqo (And.intro hqa hfx)))
                      clear hqb hqo hqm hqa hfx hqe hgd hpb hpo hbq
                      go_upto_region 13 with fail
                      go_quiet (first | (go_at_call 16; exact pt_quiet (HW.out _)))
                      go_wp2_with fail
                      refine (hd nq).mono ?_
                      rintro e wc ⟨rfl, hsc, htc⟩
                      have e0 := (htc.cell (p := ⟨wr.heap.size, 0, none⟩) HGW.out.1 HGW.out.2.1).trans c0
                      have e1 := (htc.cell (p := ⟨wr.heap.size, 1, none⟩) HGW.out.1 HGW.out.2.1).trans c1
                      have e2 := (htc.cell (p := ⟨wr.heap.size, 2, none⟩) HGW.out.1 HGW.out.2.1).trans c2
                      have e3 := (htc.cell (p := ⟨wr.heap.size, 3, none⟩) HGW.out.1 HGW.out.2.1).trans c3
                      have e4 := (htc.cell (p := ⟨wr.heap.size, 4, none⟩) HGW.out.1 HGW.out.2.1).trans c4
                      have ec := (htc.cell (p := ⟨wa.heap.size, 12, none⟩) HGW.out.2.2.1 HGW.out.2.2.2).trans cc1
                      have HC := Lib.hid (And.intro hsc (And.intro ((HT1.out.drewN nq).over htc HO.out) (And.intro ec (Nat.lt_of_lt_of_le HGW.out.2.2.1 htc.size))))
                      have HF := Lib.hid (fun m => pfailures_at (wc.drewN m) g gr gw q (kx + 1) _ (hsc.drawn m) HQ.out.1)
                      have HA := Lib.hid (fun m => pactive_at (wc.drewN m) g gr gw q (kx + 1) _ (hsc.drawn m) HQ.out.2.2.1)
                      clear hd hsc htc c0 c1 c2 c3 c4 cc1 hc0 hc1 hc2 hc3 hc4
                      go_upto_region 35 with fail
                      go_quiet (first | (go_at_call 17; exact pt_quiet (HF.out _)) | (go_at_call 18; exact pt_quiet2 (HA.out _)))
                      go_wp2
                      go_roundw
                      case rel => exact ⟨kx + 1, q, _, _, by omega, by go_num, rfl, rfl, HQ.out.1, HQ.out.2.1, HC.out.1.drawn nq, HQ.out.2.2.2, HC.out.2.1.drewN nq, HC.out.2.2.1, HC.out.2.2.2⟩
                      case measure => simp [intOf]; omega
                · by_cases k6 : kind = 6
                  · subst k6
                    clear k0 k1 k2 k3 k4 k5
                    cases op
                    · have hbq : p.canBe t u = false := by unfold PS.canBe; rw [hpo]; rfl
                      have hqb : (p.beaten t u).bad = b := by rw [show (p.beaten t u) = p by unfold PS.beaten; rw [hbq]; rfl]; exact hpb
                      have hqo : (p.beaten t u).opn = false := by rw [show (p.beaten t u) = p by unfold PS.beaten; rw [hbq]; rfl]; exact hpo
                      rw [show p.next 6 n full t u = p.beaten t u from rfl] at hd hfx
                      rw [show p.out 6 t u = false from hbq] at hd
                      have hqm : (p.beaten t u).may = k := hfx.may
                      obtain ⟨q, hqe⟩ : ∃ q, q = p.beaten t u := ⟨_, rfl⟩
                      rw [← hqe] at hqb hqo hqm hd hfx
                      obtain ⟨bact, hba⟩ : ∃ bz : Bool, decide (b ≤ k) = bz := ⟨_, rfl⟩
                      have hqa : q.active = bact := by unfold PS.active; rw [hqb, hqm]; exact hba
                      have HQ := Lib.hid (And.intro hqb (And.intro hqo (And.intro hqa hfx)))
                      clear hqb hqo hqm hqa hfx hqe hgd hpb hpo hbq
                      go_upto_region 13 with fail
                      go_quiet (first | (go_at_call 16; exact pt_quiet (HW.out _)))
                      go_wp2_with fail
                      refine (hd nq).mono ?_
                      rintro e wc ⟨rfl, hsc, htc⟩
                      have e0 := (htc.cell (p := ⟨wr.heap.size, 0, none⟩) HGW.out.1 HGW.out.2.1).trans c0
                      have e1 := (htc.cell (p := ⟨wr.heap.size, 1, none⟩) HGW.out.1 HGW.out.2.1).trans c1
                      have e2 := (htc.cell (p := ⟨wr.heap.size, 2, none⟩) HGW.out.1 HGW.out.2.1).trans c2
                      have e3 := (htc.cell (p := ⟨wr.heap.size, 3, none⟩) HGW.out.1 HGW.out.2.1).trans c3
                      have e4 := (htc.cell (p := ⟨wr.heap.size, 4, none⟩) HGW.out.1 HGW.out.2.1).trans c4
                      have ec := (htc.cell (p := ⟨wa.heap.size, 12, none⟩) HGW.out.2.2.1 HGW.out.2.2.2).trans cc1
                      have HC := Lib.hid (And.intro hsc (And.intro ((HT1.out.drewN nq).over htc HO.out) (And.intro ec (Nat.lt_of_lt_of_le HGW.out.2.2.1 htc.size))))
                      have HF := Lib.hid (fun m => pfailures_at (wc.drewN m) g gr gw q (kx + 1) _ (hsc.drawn m) HQ.out.1)
                      have HA := Lib.hid (fun m => pactive_at (wc.drewN m) g gr gw q (kx + 1) _ (hsc.drawn m) HQ.out.2.2.1)
                      clear hd hsc htc c0 c1 c2 c3 c4 cc1 hc0 hc1 hc2 hc3 hc4
                      go_upto_region 35 with fail
                      go_quiet (first | (go_at_call 17; exact pt_quiet (HF.out _)) | (go_at_call 18; exact pt_quiet2 (HA.out _)))
                      go_wp2
                      go_roundw
                      case rel => exact ⟨kx + 1, q, _, _, by omega, by go_num, rfl, rfl, HQ.out.1, HQ.out.2.1, HC.out.1.drawn nq, HQ.out.2.2.2, HC.out.2.1.drewN nq, HC.out.2.2.1, HC.out.2.2.2⟩
                      case measure => simp [intOf]; omega
                    · by_cases ht0 : 0 ≤ t
                      · have dt0 : decide (0 ≤ t) = true := by simpa using ht0
                        by_cases ht1 : t ≤ u
                        · have dt1 : decide (t ≤ u) = true := by simpa using ht1
                          have hbq : p.canBe t u = true := by unfold PS.canBe; rw [hpo]; simp; omega
                          have hqb : (p.beaten t u).bad = 0 := by rw [show (p.beaten t u) = p.answered.sample (u - t) by unfold PS.beaten; rw [hbq]; rfl, sample_bad]; rfl
                          have hqo : (p.beaten t u).opn = false := by rw [show (p.beaten t u) = p.answered.sample (u - t) by unfold PS.beaten; rw [hbq]; rfl, sample_opn]; rfl
                          rw [show p.next 6 n full t u = p.beaten t u from rfl] at hd hfx
                          rw [show p.out 6 t u = true from hbq] at hd
                          have hqm : (p.beaten t u).may = k := hfx.may
                          obtain ⟨q, hqe⟩ : ∃ q, q = p.beaten t u := ⟨_, rfl⟩
                          rw [← hqe] at hqb hqo hqm hd hfx
                          have hqa : q.active = true := by unfold PS.active; rw [hqb, hqm]; simpa using hk.1
                          have HQ := Lib.hid (And.intro hqb (And.intro hqo (And.intro hqa hfx)))
                          clear hqb hqo hqm hqa hfx hqe hgd hpb hpo hbq
                          go_upto_region 13 with fail
                          go_quiet (first | (go_at_call 16; exact pt_quiet (HW.out _)))
                          go_wp2_with fail
                          refine (hd nq).mono ?_
                          rintro e wc ⟨rfl, hsc, htc⟩
                          have e0 := (htc.cell (p := ⟨wr.heap.size, 0, none⟩) HGW.out.1 HGW.out.2.1).trans c0
                          have e1 := (htc.cell (p := ⟨wr.heap.size, 1, none⟩) HGW.out.1 HGW.out.2.1).trans c1
                          have e2 := (htc.cell (p := ⟨wr.heap.size, 2, none⟩) HGW.out.1 HGW.out.2.1).trans c2
                          have e3 := (htc.cell (p := ⟨wr.heap.size, 3, none⟩) HGW.out.1 HGW.out.2.1).trans c3
                          have e4 := (htc.cell (p := ⟨wr.heap.size, 4, none⟩) HGW.out.1 HGW.out.2.1).trans c4
                          have ec := (htc.cell (p := ⟨wa.heap.size, 12, none⟩) HGW.out.2.2.1 HGW.out.2.2.2).trans cc1
                          have HC := Lib.hid (And.intro hsc (And.intro ((HT1.out.drewN nq).over htc HO.out) (And.intro ec (Nat.lt_of_lt_of_le HGW.out.2.2.1 htc.size))))
                          have HF := Lib.hid (fun m => pfailures_at (wc.drewN m) g gr gw q (kx + 1) _ (hsc.drawn m) HQ.out.1)
                          have HA := Lib.hid (fun m => pactive_at (wc.drewN m) g gr gw q (kx + 1) _ (hsc.drawn m) HQ.out.2.2.1)
                          clear hd hsc htc c0 c1 c2 c3 c4 cc1 hc0 hc1 hc2 hc3 hc4
                          go_upto_region 35 with fail
                          go_quiet (first | (go_at_call 17; exact pt_quiet (HF.out _)) | (go_at_call 18; exact pt_quiet2 (HA.out _)))
                          go_wp2
                          go_roundw
                          case rel => exact ⟨kx + 1, q, _, _, by omega, by go_num, rfl, rfl, HQ.out.1, HQ.out.2.1, HC.out.1.drawn nq, HQ.out.2.2.2, HC.out.2.1.drewN nq, HC.out.2.2.1, HC.out.2.2.2⟩
                          case measure => simp [intOf]; omega
                        · have dt1 : decide (t ≤ u) = false := by simpa using ht1
                          have hbq : p.canBe t u = false := by unfold PS.canBe; rw [hpo]; simp; omega
                          have hqb : (p.beaten t u).bad = b := by rw [show (p.beaten t u) = p by unfold PS.beaten; rw [hbq]; rfl]; exact hpb
                          have hqo : (p.beaten t u).opn = true := by rw [show (p.beaten t u) = p by unfold PS.beaten; rw [hbq]; rfl]; exact hpo
                          rw [show p.next 6 n full t u = p.beaten t u from rfl] at hd hfx
                          rw [show p.out 6 t u = false from hbq] at hd
                          have hqm : (p.beaten t u).may = k := hfx.may
                          obtain ⟨q, hqe⟩ : ∃ q, q = p.beaten t u := ⟨_, rfl⟩
                          rw [← hqe] at hqb hqo hqm hd hfx
                          obtain ⟨bact, hba⟩ : ∃ bz : Bool, decide (b ≤ k) = bz := ⟨_, rfl⟩
                          have hqa : q.active = bact := by unfold PS.active; rw [hqb, hqm]; exact hba
                          have HQ := Lib.hid (And.intro hqb (And.intro hqo (And.intro hqa hfx)))
                          clear hqb hqo hqm hqa hfx hqe hgd hpb hpo hbq
                          go_upto_region 13 with fail
                          go_quiet (first | (go_at_call 16; exact pt_quiet (HW.out _)))
                          go_wp2_with fail
                          refine (hd nq).mono ?_
                          rintro e wc ⟨rfl, hsc, htc⟩
                          have e0 := (htc.cell (p := ⟨wr.heap.size, 0, none⟩) HGW.out.1 HGW.out.2.1).trans c0
                          have e1 := (htc.cell (p := ⟨wr.heap.size, 1, none⟩) HGW.out.1 HGW.out.2.1).trans c1
                          have e2 := (htc.cell (p := ⟨wr.heap.size, 2, none⟩) HGW.out.1 HGW.out.2.1).trans c2
                          have e3 := (htc.cell (p := ⟨wr.heap.size, 3, none⟩) HGW.out.1 HGW.out.2.1).trans c3
                          have e4 := (htc.cell (p := ⟨wr.heap.size, 4, none⟩) HGW.out.1 HGW.out.2.1).trans c4
                          have ec := (htc.cell (p := ⟨wa.heap.size, 12, none⟩) HGW.out.2.2.1 HGW.out.2.2.2).trans cc1
                          have HC := Lib.hid (And.intro hsc (And.intro ((HT1.out.drewN nq).over htc HO.out) (And.intro ec (Nat.lt_of_lt_of_le HGW.out.2.2.1 htc.size))))
                          have HF := Lib.hid (fun m => pfailures_at (wc.drewN m) g gr gw q (kx + 1) _ (hsc.drawn m) HQ.out.1)
                          have HA := Lib.hid (fun m => pactive_at (wc.drewN m) g gr gw q (kx + 1) _ (hsc.drawn m) HQ.out.2.2.1)
                          clear hd hsc htc c0 c1 c2 c3 c4 cc1 hc0 hc1 hc2 hc3 hc4
                          go_upto_region 35 with fail
                          go_quiet (first | (go_at_call 17; exact pt_quiet (HF.out _)) | (go_at_call 18; exact pt_quiet2 (HA.out _)))
                          go_wp2
                          go_roundw
                          case rel => exact ⟨kx + 1, q, _, _, by omega, by go_num, rfl, rfl, HQ.out.1, HQ.out.2.1, HC.out.1.drawn nq, HQ.out.2.2.2, HC.out.2.1.drewN nq, HC.out.2.2.1, HC.out.2.2.2⟩
                          case measure => simp [intOf]; omega
                      · have dt0 : decide (0 ≤ t) = false := by simpa using ht0
                        have hbq : p.canBe t u = false := by unfold PS.canBe; rw [hpo]; simp; omega
                        have hqb : (p.beaten t u).bad = b := by rw [show (p.beaten t u) = p by unfold PS.beaten; rw [hbq]; rfl]; exact hpb
                        have hqo : (p.beaten t u).opn = true := by rw [show (p.beaten t u) = p by unfold PS.beaten; rw [hbq]; rfl]; exact hpo
                        rw [show p.next 6 n full t u = p.beaten t u from rfl] at hd hfx
                        rw [show p.out 6 t u = false from hbq] at hd
                        have hqm : (p.beaten t u).may = k := hfx.may
                        obtain ⟨q, hqe⟩ : ∃ q, q = p.beaten t u := ⟨_, rfl⟩
                        rw [← hqe] at hqb hqo hqm hd hfx
                        obtain ⟨bact, hba⟩ : ∃ bz : Bool, decide (b ≤ k) = bz := ⟨_, rfl⟩
                        have hqa : q.active = bact := by unfold PS.active; rw [hqb, hqm]; exact hba
                        have HQ := Lib.hid (And.intro hqb (And.intro hqo (And.intro hqa hfx)))
                        clear hqb hqo hqm hqa hfx hqe hgd hpb hpo hbq
                        go_upto_region 13 with fail
                        go_quiet (first | (go_at_call 16; exact pt_quiet (HW.out _)))
                        go_wp2_with fail
                        refine (hd nq).mono ?_
                        rintro e wc ⟨rfl, hsc, htc⟩
                        have e0 := (htc.cell (p := ⟨wr.heap.size, 0, none⟩) HGW.out.1 HGW.out.2.1).trans c0
                        have e1 := (htc.cell (p := ⟨wr.heap.size, 1, none⟩) HGW.out.1 HGW.out.2.1).trans c1
                        have e2 := (htc.cell (p := ⟨wr.heap.size, 2, none⟩) HGW.out.1 HGW.out.2.1).trans c2
                        have e3 := (htc.cell (p := ⟨wr.heap.size, 3, none⟩) HGW.out.1 HGW.out.2.1).trans c3
                        have e4 := (htc.cell (p := ⟨wr.heap.size, 4, none⟩) HGW.out.1 HGW.out.2.1).trans c4
                        have ec := (htc.cell (p := ⟨wa.heap.size, 12, none⟩) HGW.out.2.2.1 HGW.out.2.2.2).trans cc1
                        have HC := Lib.hid (And.intro hsc (And.intro ((HT1.out.drewN nq).over htc HO.out) (And.intro ec (Nat.lt_of_lt_of_le HGW.out.2.2.1 htc.size))))
                        have HF := Lib.hid (fun m => pfailures_at (wc.drewN m) g gr gw q (kx + 1) _ (hsc.drawn m) HQ.out.1)
                        have HA := Lib.hid (fun m => pactive_at (wc.drewN m) g gr gw q (kx + 1) _ (hsc.drawn m) HQ.out.2.2.1)
                        clear hd hsc htc c0 c1 c2 c3 c4 cc1 hc0 hc1 hc2 hc3 hc4
                        go_upto_region 35 with fail
                        go_quiet (first | (go_at_call 17; exact pt_quiet (HF.out _)) | (go_at_call 18; exact pt_quiet2 (HA.out _)))
                        go_wp2
                        go_roundw
                        case rel => exact ⟨kx + 1, q, _, _, by omega, by go_num, rfl, rfl, HQ.out.1, HQ.out.2.1, HC.out.1.drawn nq, HQ.out.2.2.2, HC.out.2.1.drewN nq, HC.out.2.2.1, HC.out.2.2.2⟩
                        case measure => simp [intOf]; omega
                  · have e1 : p.next kind n full t u = p := by simp only [PS.next, if_neg k0, if_neg k1, if_neg k2, if_neg k3, if_neg k4, if_neg k5, if_neg k6]
                    have e2 : p.out kind t u = false := by simp only [PS.out, if_neg k4, if_neg k5, if_neg k6]
                    rw [e1, e2] at hd
                    rw [e1] at hfx
                    have b0 : (kind == 0) = false := by simpa using k0
                    have b1 : (kind == 1) = false := by simpa using k1
                    have b2 : (kind == 2) = false := by simpa using k2
                    have b3 : (kind == 3) = false := by simpa using k3
                    have b4 : (kind == 4) = false := by simpa using k4
                    have b5 : (kind == 5) = false := by simpa using k5
                    have b6 : (kind == 6) = false := by simpa using k6
                    clear e1 e2 k0 k1 k2 k3 k4 k5 k6
                    have hqb : (p).bad = b := hpb
                    have hqo : (p).opn = op := hpo
                    have hqm : (p).may = k := hfx.may
                    obtain ⟨q, hqe⟩ : ∃ q, q = p := ⟨_, rfl⟩
                    rw [← hqe] at hqb hqo hqm hd hfx
                    obtain ⟨bact, hba⟩ : ∃ bz : Bool, decide (b ≤ k) = bz := ⟨_, rfl⟩
                    have hqa : q.active = bact := by unfold PS.active; rw [hqb, hqm]; exact hba
                    have HQ := Lib.hid (And.intro hqb (And.intro hqo (And.intro hqa hfx)))
                    clear hqb hqo hqm hqa hfx hqe hgd hpb hpo
                    go_upto_region 13 with fail
                    go_quiet (first | (go_at_call 16; exact pt_quiet (HW.out _)))
                    go_wp2_with fail
                    refine (hd nq).mono ?_
                    rintro e wc ⟨rfl, hsc, htc⟩
                    have e0 := (htc.cell (p := ⟨wr.heap.size, 0, none⟩) HGW.out.1 HGW.out.2.1).trans c0
                    have e1 := (htc.cell (p := ⟨wr.heap.size, 1, none⟩) HGW.out.1 HGW.out.2.1).trans c1
                    have e2 := (htc.cell (p := ⟨wr.heap.size, 2, none⟩) HGW.out.1 HGW.out.2.1).trans c2
                    have e3 := (htc.cell (p := ⟨wr.heap.size, 3, none⟩) HGW.out.1 HGW.out.2.1).trans c3
                    have e4 := (htc.cell (p := ⟨wr.heap.size, 4, none⟩) HGW.out.1 HGW.out.2.1).trans c4
                    have ec := (htc.cell (p := ⟨wa.heap.size, 12, none⟩) HGW.out.2.2.1 HGW.out.2.2.2).trans cc1
                    have HC := Lib.hid (And.intro hsc (And.intro ((HT1.out.drewN nq).over htc HO.out) (And.intro ec (Nat.lt_of_lt_of_le HGW.out.2.2.1 htc.size))))
                    have HF := Lib.hid (fun m => pfailures_at (wc.drewN m) g gr gw q (kx + 1) _ (hsc.drawn m) HQ.out.1)
                    have HA := Lib.hid (fun m => pactive_at (wc.drewN m) g gr gw q (kx + 1) _ (hsc.drawn m) HQ.out.2.2.1)
                    clear hd hsc htc c0 c1 c2 c3 c4 cc1 hc0 hc1 hc2 hc3 hc4
                    go_upto_region 35 with fail
                    go_quiet (first | (go_at_call 17; exact pt_quiet (HF.out _)) | (go_at_call 18; exact pt_quiet2 (HA.out _)))
                    go_wp2
                    go_roundw
                    case rel => exact ⟨kx + 1, q, _, _, by omega, by go_num, rfl, rfl, HQ.out.1, HQ.out.2.1, HC.out.1.drawn nq, HQ.out.2.2.2, HC.out.2.1.drewN nq, HC.out.2.2.1, HC.out.2.2.2⟩
                    case measure => simp [intOf]; omega
    · obtain rfl : len = kx := by omega
      clear hT hs hfp hcc hgcl
      go_wp2_with fail
      refine (works_any wr).mono ?_
      rintro e w6 ⟨rfl, ht6⟩
      have HT6 := Lib.hid (HT.out.trans ht6)
      clear ht6
      go_wp2
      go_ret
      exact ⟨rfl, HT6.out.below (Nat.le_refl _) (by simp)⟩

set_option maxHeartbeats 800000 in
theorem failsL (r : Int) (a : Option Addr) (len cap : Nat) (w : World) (hlen : 300 < len) :
    Calls Try.prog 4 #[.int .u8 r, .slice a len cap] w fun e w' => e = .returned (.bool true) ∧ Below w.heap.size w w' := by
  have d1 : decide (300 < (len : Int)) = true := by simp; omega
  clear hlen
  go_enter Try.func4, Try.ntmps4
  go_wp2_with fail
  refine (works_any w).mono ?_
  rintro e w1 ⟨rfl, ht1⟩
  go_wp2
  go_ret
  exact ⟨rfl, ht1.below (Nat.le_refl _) (by simp)⟩

theorem pathFails_walk (r : Int) (a : Option Addr) (len cap : Nat) (ss : List PO) (w : World) (w1 : (Lit.int .u8 r).wf = true) (hz : IsPOps w a len cap ss) :
    Calls Try.prog 4 #[.int .u8 r, .slice a len cap] w fun e w' => e = .returned (.bool true) ∧ Below w.heap.size w w' := by
  by_cases hl : len ≤ 300
  · exact failsF r a len cap _ w (wf_u8_in w1).1 (wf_u8_in w1).2 hz.1 hl
  · exact failsL r a len cap w (by omega)
end Go.Proofs.Ytkgfogepbclhkaa
