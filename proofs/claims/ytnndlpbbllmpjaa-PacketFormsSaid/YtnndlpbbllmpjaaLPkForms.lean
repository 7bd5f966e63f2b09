/-
  The walk of PacketForms. Written by genpkforms.py.
-/
import Derived.Test.YtnndlpbbllmpjaaPkForm
import Derived.Test.YtnndlpbbllmpjaaLPkBack
import Derived.Test.YtnndlpbbllmpjaaMgA
import Derived.Deep.DeepCutAuto
import Derived.Deep.CutRange
namespace Go.Proofs.Ytnndlpbbllmpjaa
open Go.RowKit
set_option linter.unusedVariables false
set_option linter.unusedSimpArgs false

set_option maxRecDepth 100000 in
set_option maxHeartbeats 3200000 in
theorem packetForms_of (PW : PkWriteOk) (PR : PkReadOk) (PS : PkSizeOk) (WK : PkWorks) (tag : Int) (aq : Option Addr) (n c : Nat) (L : List Ck) (at0 vv : Int) (w : World) (wt : (Lit.int .u32 tag).wf = true) (h : RowsCk w aq n c L) (wat : (Lit.int .u16 at0).wf = true) (wv : (Lit.int .u8 vv).wf = true) :
    Calls Try.prog 9 #[.agg #[.int .u32 tag, .slice aq n c, .int .u16 at0, .int .u8 vv]] w fun e w' => e = .returned (.bool true) ∧ Below w.heap.size w w' := by
  obtain ⟨t0, t1⟩ : 0 ≤ tag ∧ tag < 4294967296 := by have := wf_u32_in wt; omega
  obtain ⟨k0, k1⟩ : 0 ≤ at0 ∧ at0 < 65536 := by have := wf_u16_in wat; omega
  obtain ⟨v0, v1⟩ : 0 ≤ vv ∧ vv < 256 := by have := wf_u8_in wv; omega
  clear wt wat wv
  obtain ⟨w0, hw0⟩ : ∃ w0, w.alloc (.cells #[.int .u32 tag, .slice aq n c, .int .u16 at0, .int .u8 vv] 53) = w0 := ⟨_, rfl⟩
  have hb0 : Below w.heap.size w w0 := by rw [← hw0]; exact (Below.refl _ _).alloc (Nat.le_refl _) _
  have hA : Arr w0 w.heap.size 53 [.int .u32 tag, .slice aq n c, .int .u16 at0, .int .u8 vv] := by rw [← hw0]; exact arr_new _ _ _
  have c0 := hA.cell (i := 0) rfl
  have c1 := hA.cell (i := 1) rfl
  have HLG := Lib.hid (large_any tag aq n c L w0 (h.below hb0))
  have HB0 := Lib.hid hb0
  have HA0 := Lib.hid hA
  have HROW := Lib.hid h
  clear hb0 hA h
  go_enter Try.func9, Try.ntmps9
  go_wp2_with fail
  refine HLG.out.mono ?_
  rintro e w1 ⟨lg, rfl, hb1, hsm⟩
  have HB1 := Lib.hid (HB0.out.trans (hb1.mono HB0.out.size))
  have HA1 := Lib.hid (HA0.out.keep hb1)
  have HSM := Lib.hid hsm
  clear c0 c1 hb1 HB0 HA0 HLG hsm
  have c0 := HA1.out.cell (i := 0) rfl
  have c1 := HA1.out.cell (i := 1) rfl
  cases lg with
  | true =>
    go_wp2_with fail
    refine (WK w1).mono ?_
    rintro e w' ⟨rfl, hb'⟩
    have HF := Lib.hid (HB1.out.trans (hb'.mono HB1.out.size))
    clear hb'
    go_wp2
    go_ret
    exact ⟨rfl, HF.out⟩
  | false =>
  obtain ⟨hs1, hs2⟩ := HSM.out rfl
  have HSZ := Lib.hid (show sizeP (pcs L) ≤ 200000 ∧ 12 + (bodyP (pcs L)).length ≤ 200000 from ⟨by have h1 := sizeP_sum HROW.out.row; have h2 := HROW.out.hlen; omega, by have h1 := bodyP_sum HROW.out.row; have h2 := HROW.out.hlen; omega⟩)
  have HT := Lib.hid (And.intro t0 t1)
  have HWR := Lib.hid (PW tag aq n c L w1 (HROW.out.below HB1.out) (by omega) t0 t1 (by have := HSZ.out; omega))
  clear hs1 hs2 HSM t0 t1
  go_wp2_with fail
  refine HWR.out.mono ?_
  rintro e w2 ⟨aw, cw, rfl, hb2, hr2⟩
  have HB2 := Lib.hid (HB1.out.trans (hb2.mono HB1.out.size))
  have HA2 := Lib.hid (HA1.out.keep hb2)
  clear c0 c1 hb2 HWR
  cases hm : mayB (pcs L) with
  | false =>
    have hz0 : (writeP tag (pcs L)).length = 0 := by unfold writeP; rw [hm]; rfl
    rw [hz0]
    clear hr2 hm hz0
    go_wp2_with fail
    refine (WK w2).mono ?_
    rintro e w' ⟨rfl, hb'⟩
    have HF := Lib.hid (HB2.out.trans (hb'.mono HB2.out.size))
    clear hb'
    go_wp2
    go_ret
    exact ⟨rfl, HF.out⟩
  | true =>
  obtain ⟨g1, g2, g3, g4⟩ := written_is HT.out.1 HT.out.2 hm
  have hwl : (writeP tag (pcs L)).length ≤ 200000 := by unfold writeP; rw [if_pos hm]; have h1 := HSZ.out.2; unfold laidP; rw [List.length_append, headP_len]; omega
  have hby : Byt (writeP tag (pcs L)) := by unfold writeP; rw [if_pos hm]; exact laidP_byt (pcs_ok HROW.out)
  generalize writeP tag (pcs L) = b0 at *
  obtain ⟨N, hN⟩ : ∃ N, b0.length = N := ⟨_, rfl⟩
  rw [hN] at hr2 ⊢ hwl
  have HW := Lib.hid (And.intro g1 (And.intro g3 (And.intro hby (And.intro hN g4))))
  have hN12 : 12 ≤ N := by omega
  clear g1 g2 g3 g4 hby hm hN
  obtain ⟨hl0, hcase⟩ := hr2
  obtain ⟨g, sp, rfl, hbg, hblk, hsp, hcc, hcm⟩ : ∃ g sp, aw = some ⟨g, 0, none⟩ ∧ w1.heap.size ≤ g ∧ Blk w2 g (b0 ++ sp) ∧ Byt sp ∧ b0.length + sp.length = cw ∧ cw ≤ maxLen := by
    rcases hcase with ⟨_, h0, _⟩ | h
    · omega
    · exact h
  have HG := Lib.hid (And.intro hbg (And.intro hblk (And.intro hsp hcc)))
  have hNi : (12 : Int) ≤ (N : Int) := by omega
  clear hl0 hcase hbg hblk hsp hcc hcm
  obtain ⟨k, hk⟩ : ∃ k : Nat, at0.toNat % 8 = k := ⟨_, rfl⟩
  have hk8 : k < 8 := by omega
  have hkm : at0 % 8 = (k : Int) := by omega
  have hki : (k : Int) < (N : Int) := by omega
  have hki0 : (0 : Int) ≤ (k : Int) := by omega
  have hkN : k < N := by omega
  have e0 := HG.out.2.1.cell (i := k) (by rw [List.length_append, HW.out.2.2.2.1]; omega)
  rw [List.getElem?_append_left (by rw [HW.out.2.2.2.1]; exact hkN)] at e0
  have f0 := HG.out.2.1.free k
  have c2 := HA2.out.cell (i := 2) rfl
  have c3 := HA2.out.cell (i := 3) rfl
  have hN0 : ((N : Int) == 0) = false := by simp; omega
  obtain ⟨wv0, hwv⟩ : ∃ x, b0[k]?.getD 0 = x := ⟨_, rfl⟩
  have HWV := Lib.hid hwv
  rw [hwv] at e0
  clear hk hwv
  obtain ⟨w3, hw3⟩ : ∃ x, w2.setCell ⟨g, k, none⟩ (.int .u8 vv) = x := ⟨_, rfl⟩
  have hbk3 : Blk w3 g (b0.set k vv ++ sp) := by
    rw [← hw3]
    have h := HG.out.2.1.set k vv
    rwa [List.set_append_left _ _ (by rw [HW.out.2.2.2.1]; exact hkN)] at h
  have hgw : w.heap.size < g := by have := HG.out.1; have := HA1.out.lt; omega
  have hB3 : Below w.heap.size w w3 := by rw [← hw3]; exact HB2.out.setCell (p := ⟨g, k, none⟩) (by show w.heap.size ≤ g; omega) _
  have hA3 : Arr w3 w.heap.size 53 [.int .u32 tag, .slice aq n c, .int .u16 at0, .int .u8 vv] := by rw [← hw3]; exact (Below.heap_setCell w2 ⟨g, k, none⟩ _ _ (by show w.heap.size ≠ g; omega)).trans HA2.out
  have hl1 : (b0.set k vv).length = N := by rw [List.length_set]; exact HW.out.2.2.2.1
  have hrd1 : Reads w3 (some ⟨g, 0, none⟩) N (b0.set k vv) := by
    have hh := hbk3.reads 0 N (by rw [List.length_append, hl1]; omega)
    rwa [List.drop_zero, List.take_left' hl1] at hh
  have HS1 := Lib.hid (summed_any (some ⟨g, 0, none⟩) N cw (b0.set k vv) w3 hrd1 (HW.out.2.2.1.set k v0 v1) hN12 (by omega))
  have H3 := Lib.hid (And.intro hbk3 (And.intro hB3 (And.intro hA3 hl1)))
  clear hbk3 hB3 hA3 hrd1 hl1
  go_wp2_with fail
  refine HS1.out.mono ?_
  rintro e w4 ⟨rfl, hb4, hk4⟩
  have hsl : (smB (b0.set k vv)).length = N := by rw [smB_len (by rw [H3.out.2.2.2]; exact hN12)]; exact H3.out.2.2.2
  have HR1 := Lib.hid (PR (some ⟨w3.heap.size, 0, none⟩) N N (smB (b0.set k vv)) w4 (hk4.readsAll N hsl.symm) (smB_byt (HW.out.2.2.1.set k v0 v1)) (Nat.le_refl _) (by omega))
  have H4 := Lib.hid (And.intro (H3.out.1.below hb4) (And.intro (H3.out.2.1.trans (hb4.mono H3.out.2.1.size)) (H3.out.2.2.1.keep hb4)))
  clear hb4 hk4 hsl HS1 e0 f0 c2 c3 hw3
  go_wp2_with fail
  refine HR1.out.mono ?_
  rintro e w5 ⟨hrd, hb5⟩
  obtain ⟨er, T, a5, n5, c5, rfl, her, hlo, hhi⟩ := turned_ask HW.out.2.2.1 HW.out.1 HW.out.2.1 HW.out.2.2.2.2 hk8 v0 v1 hrd
  rw [HWV.out] at hlo hhi
  have HE := Lib.hid (And.intro her (And.intro hlo hhi))
  clear hrd her hlo hhi HR1
  have hb6 : Below w5.heap.size w5 (w5.alloc (.cells #[.int .u32 T, .slice a5 n5 c5] 25)) := (Below.refl _ _).alloc (Nat.le_refl _) _
  have hA6 : Arr (w5.alloc (.cells #[.int .u32 T, .slice a5 n5 c5] 25)) w5.heap.size 25 [.int .u32 T, .slice a5 n5 c5] := arr_new _ _ _
  have hb46 := hb5.trans (hb6.mono hb5.size)
  have H6 := Lib.hid (And.intro (H4.out.1.below hb46) (And.intro (H4.out.2.1.trans (hb46.mono H4.out.2.1.size)) (And.intro (H4.out.2.2.keep hb46) hA6)))
  clear hb5 hb6 hA6 hb46 H4
  go_upto_region 10 with fail
  generalize (w5.alloc (.cells #[.int .u32 T, .slice a5 n5 c5] 25)) = w6 at *
  generalize w5.heap.size = gp at *
  have x0 := H6.out.2.2.1.cell (i := 0) rfl
  have x3 := H6.out.2.2.1.cell (i := 3) rfl
  have y0 := H6.out.2.2.2.cell (i := 0) rfl
  go_cut [0, 5, 7, 73] from 13 to 73 (fun zz p q s wx => zz = .agg #[.int .u32 tag, .slice aq n c, .int .u16 at0, .int .u8 vv] ∧ p = .int .u8 wv0 ∧ q = .int .i64 er ∧ s = .bool false ∧ wx = w6)
  case first =>
    by_cases h4 : k < 4
    · have hk4 : (k : Int) < 4 := by omega
      have hk4' : decide ((4 : Int) ≤ (k : Int)) = false := by simp; omega
      by_cases hv : vv = wv0
      · have her0 : er = 0 := (HE.out.2.1 h4).2 hv
        subst her0 hv
        clear HE
        go_wp2
        go_meet
        case rel => exact ⟨rfl, rfl, rfl, rfl, rfl⟩
      · have her0 : er = 7 := HE.out.1.resolve_left (fun h => hv ((HE.out.2.1 h4).1 h))
        have hvb : (vv == wv0) = false := by simpa using hv
        subst her0
        clear HE hv
        go_wp2
        go_meet
        case rel => exact ⟨rfl, rfl, rfl, rfl, rfl⟩
    · have hk4 : decide ((k : Int) < 4) = false := by simp; omega
      have hk4' : (4 : Int) ≤ (k : Int) := by omega
      have her0 : er = 0 := (HE.out.2.2 (by omega)).1
      subst her0
      clear HE
      go_wp2
      go_meet
      case rel => exact ⟨rfl, rfl, rfl, rfl, rfl⟩
  case rest =>
  obtain ⟨rfl, rfl, rfl, rfl, hwc⟩ := hcut
  obtain rfl : w6 = wc := hwc.symm
  go_upto_region 12 with fail
  go_cut [0, 5, 7, 88] from 13 to 88 (fun zz p q s wx => zz = .agg #[.int .u32 tag, .slice aq n c, .int .u16 at0, .int .u8 vv] ∧ p = .int .u8 wv0 ∧ q = .int .i64 er ∧ s = .bool false ∧ wx = w6)
  case first =>
    by_cases h4 : k < 4
    · have hk4' : decide ((4 : Int) ≤ (k : Int)) = false := by simp; omega
      go_wp2
      go_meet
      case rel => exact ⟨rfl, rfl, rfl, rfl, rfl⟩
    · have hk4' : (4 : Int) ≤ (k : Int) := by omega
      have hTv := (HE.out.2.2 (by omega)).2
      by_cases hv : vv = wv0
      · have hT : T = tag := hTv.2 hv
        subst hv hT
        clear HE
        go_wp2
        go_meet
        case rel => exact ⟨rfl, rfl, rfl, rfl, rfl⟩
      · have hT : (T == tag) = false := by simpa using fun h => hv (hTv.1 h)
        have hvb : (vv == wv0) = false := by simpa using hv
        clear HE hv hTv
        go_wp2
        go_meet
        case rel => exact ⟨rfl, rfl, rfl, rfl, rfl⟩
  case rest =>
  obtain ⟨rfl, rfl, rfl, rfl, hwc⟩ := hcut
  obtain rfl : w6 = wc := hwc.symm
  clear x0 x3 y0
  have hl1 : (b0.set k vv).length = N := by rw [List.length_set]; exact HW.out.2.2.2.1
  have e0 := H6.out.1.cell (i := k) (by rw [List.length_append, hl1]; omega)
  have f0 := H6.out.1.free k
  obtain ⟨w7, hw7⟩ : ∃ x, w6.setCell ⟨g, k, none⟩ (.int .u8 wv0) = x := ⟨_, rfl⟩
  have hbk7 : Blk w7 g (b0 ++ sp) := by
    rw [← hw7]
    have h := H6.out.1.set k wv0
    rw [List.set_append_left _ _ (by rw [hl1]; exact hkN), List.set_set, ← HWV.out, set_was (by rw [HW.out.2.2.2.1]; exact hkN)] at h
    rw [← HWV.out]
    exact h
  have hB7 : Below w.heap.size w w7 := by rw [← hw7]; exact H6.out.2.1.setCell (p := ⟨g, k, none⟩) (by show w.heap.size ≤ g; omega) _
  have hrd7 : Reads w7 (some ⟨g, 0, none⟩) N b0 := by
    have hh := hbk7.reads 0 N (by rw [List.length_append, HW.out.2.2.2.1]; omega)
    rwa [List.drop_zero, List.take_left' HW.out.2.2.2.1] at hh
  have hrd12 : Reads w7 (some ⟨g, 0, none⟩) 12 (b0.take 12) := by
    have hh := hrd7.part 0 12 (by omega)
    simpa using hh
  have hl12 : (b0.take 12).length = 12 := hrd12.1
  have HS2 := Lib.hid (summed_any (some ⟨g, 0, none⟩) 12 cw (b0.take 12) w7 hrd12 (HW.out.2.2.1.take 12) (Nat.le_refl _) (by omega))
  have hcw : N ≤ cw := by have h1 := HG.out.2.2.2; have h2 := HW.out.2.2.2.1; omega
  have hcut : (Instr.slice 29 (.slice (some ⟨g, 0, none⟩) N cw) none (some (.int .i64 12)) none).run Try.prog w7 = .ok (.slice (some ⟨g, 0, none⟩) 12 cw) w7 := by
    have hh := cut_h (some ⟨g, 0, none⟩) N cw 12 (by omega) w7
    unfold cutA at hh
    rw [if_neg (by omega)] at hh
    simpa [Addr.add_mid] using hh
  have H7 := Lib.hid (And.intro hB7 (And.intro hrd7 hl12))
  clear hbk7 hB7 hrd7 hrd12 hl12 hl1 H3 H6 HE
  go_wp2_with fail
  refine HS2.out.mono ?_
  rintro e w8 ⟨rfl, hb8, hk8'⟩
  have hsl : (smB (b0.take 12)).length = 12 := by rw [smB_len (by rw [H7.out.2.2]; exact Nat.le_refl _)]; exact H7.out.2.2
  have HR2 := Lib.hid (PR (some ⟨w7.heap.size, 0, none⟩) 12 12 (smB (b0.take 12)) w8 (hk8'.readsAll 12 hsl.symm) (smB_byt (HW.out.2.2.1.take 12)) (Nat.le_refl _) (by omega))
  have H8 := Lib.hid (And.intro (H7.out.1.trans (hb8.mono H7.out.1.size)) (H7.out.2.1.below hb8))
  clear hb8 hk8' hsl HS2 hcut e0 f0 hw7
  go_wp2_with fail
  refine HR2.out.mono ?_
  rintro e w9 ⟨hrd, hb9⟩
  obtain rfl := head_ask H7.out.2.2 hrd
  unfold rdNo
  have hb10 : Below w9.heap.size w9 (w9.alloc (.cells #[.int .u32 0, .slice none 0 0] 25)) := (Below.refl _ _).alloc (Nat.le_refl _) _
  have hb810 := hb9.trans (hb10.mono hb9.size)
  have H10 := Lib.hid (And.intro (H8.out.1.trans (hb810.mono H8.out.1.size)) (H8.out.2.below hb810))
  clear hrd hb9 hb10 hb810 HR2 H8 H7
  go_upto_region 16 with fail
  generalize (w9.alloc (.cells #[.int .u32 0, .slice none 0 0] 25)) = w10 at *
  have HCB := Lib.hid (copyBytes_any (some ⟨g, 0, none⟩) N cw b0 w10 H10.out.2 (by omega))
  go_wp2_with fail
  refine HCB.out.mono ?_
  rintro e w11 ⟨a11, rfl, hb11, hr11⟩
  have hb12 : Below w11.heap.size w11 (w11.alloc (.cells #[.int .u8 0, .int .u8 0, .int .u8 0] 5)) := (Below.refl _ _).alloc (Nat.le_refl _) _
  have hk12 : Blk (w11.alloc (.cells #[.int .u8 0, .int .u8 0, .int .u8 0] 5)) w11.heap.size [0, 0, 0] := heap_alloc_new _ _
  obtain ⟨a13, c13, w13, hrun, H13⟩ := (hr11.keep hb12).appends (Nat.le_trans hb11.size hb12.size) (some ⟨w11.heap.size, 0, none⟩) 3 3 [0, 0, 0] (hk12.readsAll 3 rfl) (by omega)
  have HRUN := Lib.hid hrun
  have hb1012 := hb11.trans (hb12.mono hb11.size)
  have hB13 := H10.out.1.trans ((hb1012.trans H13.out.2).mono H10.out.1.size)
  have hlc : (b0 ++ [0, 0, 0]).length = N + 3 := by rw [List.length_append, HW.out.2.2.2.1]; rfl
  have HS3 := Lib.hid (summed_any a13 (N + 3) c13 (b0 ++ [0, 0, 0]) w13 H13.out.1.reads (HW.out.2.2.1.append (Byt.rep (k := 3) (by omega) (by omega))) (by omega) (by omega))
  have HB13 := Lib.hid (And.intro hB13 hlc)
  clear hb11 hr11 hb12 hk12 hrun H13 hb1012 hB13 hlc HCB H10
  go_wp2_with (at_builtin; refine wpList_append_run rfl _ _ _ rfl _ _ _ _ rfl rfl HRUN.out ?_)
  refine HS3.out.mono ?_
  rintro e w14 ⟨rfl, hb14, hk14⟩
  have hsl : (smB (b0 ++ [0, 0, 0])).length = N + 3 := by rw [smB_len (by rw [HB13.out.2]; omega)]; exact HB13.out.2
  have HR3 := Lib.hid (PR (some ⟨w13.heap.size, 0, none⟩) (N + 3) (N + 3) (smB (b0 ++ [0, 0, 0])) w14 (hk14.readsAll (N + 3) hsl.symm) (smB_byt (HW.out.2.2.1.append (Byt.rep (k := 3) (by omega) (by omega)))) (Nat.le_refl _) (by omega))
  have HB14 := Lib.hid (HB13.out.1.trans (hb14.mono HB13.out.1.size))
  clear hb14 hk14 hsl HS3
  go_wp2_with fail
  refine HR3.out.mono ?_
  rintro e w15 ⟨hrd, hb15⟩
  obtain rfl := more_ask (by rw [HW.out.2.2.2.1]; exact hN12) HW.out.2.1 hrd
  unfold rdNo
  have hb16 : Below w15.heap.size w15 (w15.alloc (.cells #[.int .u32 0, .slice none 0 0] 25)) := (Below.refl _ _).alloc (Nat.le_refl _) _
  have HB16 := Lib.hid ((HB14.out.trans (hb15.mono HB14.out.size)).trans (hb16.mono (HB14.out.trans (hb15.mono HB14.out.size)).size))
  clear hrd hb15 hb16 HR3
  go_upto_region 19 with fail
  generalize (w15.alloc (.cells #[.int .u32 0, .slice none 0 0] 25)) = w16 at *
  go_wp2_with fail
  refine (WK w16).mono ?_
  rintro e w' ⟨rfl, hb'⟩
  have HF := Lib.hid (HB16.out.trans (hb'.mono HB16.out.size))
  clear hb'
  go_wp2
  go_ret
  exact ⟨rfl, HF.out⟩
end Go.Proofs.Ytnndlpbbllmpjaa
