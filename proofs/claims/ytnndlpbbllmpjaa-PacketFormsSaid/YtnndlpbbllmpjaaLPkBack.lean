/-
  The walk of PacketBack. Written by genpkback.py.
-/
import Derived.Test.YtnndlpbbllmpjaaPkTie
import Derived.Test.YtnndlpbbllmpjaaLPkWrites
namespace Go.Proofs.Ytnndlpbbllmpjaa
open Go.RowKit
set_option linter.unusedVariables false
set_option linter.unusedSimpArgs false

theorem up4_mod (n : Nat) : up4 n % 4 = 0 := by unfold up4; omega
theorem sizeP_mod (L : List PC) : sizeP L % 4 = 0 := by
  induction L with
  | nil => rfl
  | cons c L ih =>
    have e : sizeP (c :: L) = sizeP L + (4 + up4 c.zs.length) := by simp [sizeP, sizeC]; omega
    have := up4_mod c.zs.length
    omega
/-- What the program's Read answers of bytes that came in. -/
def RdS (b : List Int) (w' : World) (e : Ending) : Prop :=
  (e = .returned (.tuple #[.agg #[.int .u32 0, .slice none 0 0], .int .i64 7]) ∨ e = .returned (.tuple #[.agg #[.int .u32 0, .slice none 0 0], .int .i64 8])) ∨
  ∃ L a n c, sumOk b = true ∧ IsP b (pcs L) ∧ 12 ≤ b.length ∧ e = .returned (.tuple #[.agg #[.int .u32 (tagB b), .slice a n c], .int .i64 0]) ∧ RowsCk w' a n c L ∧ n ≤ 1048576
theorem RdPr.short {b : List Int} {w w' : World} {e : Ending} (h : RdPr b w w' e) : RdS b w' e := by
  rcases h with ⟨_, h⟩ | ⟨_, _, h⟩ | ⟨_, _, _, h⟩ | ⟨hl, hs, L, a, n, c, hp, h, hr, hn, _⟩
  · exact .inl (.inl h)
  · exact .inl (.inr h)
  · exact .inl (.inl h)
  · exact .inr ⟨L, a, n, c, hs, hp, hl, h, hr, hn⟩
/-- What is written is read. -/
theorem RdPr.again {tag : Int} {L : List PC} {w w' : World} {e : Ending} (h0 : 0 ≤ tag) (h1 : tag < 4294967296) (hm : mayB L = true) (h : RdPr (writeP tag L) w w' e) : ∃ M a c, pcs M = L ∧ e = .returned (.tuple #[.agg #[.int .u32 tag, .slice a L.length c], .int .i64 0]) ∧ RowsCk w' a L.length c M := by
  obtain ⟨g1, g2, g3, g4⟩ := written_is h0 h1 hm
  rcases h with ⟨h, _⟩ | ⟨_, h, _⟩ | ⟨_, _, h, _⟩ | ⟨hl, hs, M, a, n, c, hp, h, hr, hn, _⟩
  · omega
  · rw [g2] at h; cases h
  · exact absurd g3 (h L)
  · have e2 : pcs M = L := hp.one g3
    have e3 : L.length = n := by rw [← e2, pcs_len, hr.hlen]
    rw [e3]
    exact ⟨M, a, c, e2, by rw [h, g4], hr⟩

set_option maxRecDepth 100000 in
set_option maxHeartbeats 1600000 in
theorem packetBack_of (PW : PkWriteOk) (PR : PkReadOk) (PS : PkSizeOk) (WK : PkWorks) (tag : Int) (aq : Option Addr) (n c : Nat) (L : List Ck) (ab : Option Addr) (nb cb : Nat) (z : List Int) (w : World) (wt : (Lit.int .u32 tag).wf = true) (h : RowsCk w aq n c L) (wb : IsRow .u8 w ab nb cb z) :
    Calls Try.prog 6 #[.agg #[.int .u32 tag, .slice aq n c], .slice ab nb cb] w fun e w' => e = .returned (.bool true) ∧ Below w.heap.size w w' := by
  obtain ⟨t0, t1⟩ : 0 ≤ tag ∧ tag < 4294967296 := by have := wf_u32_in wt; omega
  obtain ⟨hr, hbyt, hcap, hmax⟩ := wb.reads
  generalize z.take nb = zb at hr hbyt
  clear wt wb
  obtain ⟨w0, hw0⟩ : ∃ w0, w.alloc (.cells #[.int .u32 tag, .slice aq n c] 25) = w0 := ⟨_, rfl⟩
  have hb0 : Below w.heap.size w w0 := by rw [← hw0]; exact (Below.refl _ _).alloc (Nat.le_refl _) _
  have hA : Arr w0 w.heap.size 25 [.int .u32 tag, .slice aq n c] := by rw [← hw0]; exact arr_new _ _ _
  have c0 := hA.cell (i := 0) rfl
  have c1 := hA.cell (i := 1) rfl
  have HLG := Lib.hid (large_any tag aq n c L w0 (h.below hb0))
  have HB0 := Lib.hid hb0
  have HA0 := Lib.hid hA
  have HROW := Lib.hid h
  have HR := Lib.hid (And.intro hr (And.intro hbyt hcap))
  clear hb0 hA h hr hbyt
  go_enter Try.func6, Try.ntmps6
  go_wp2_with fail
  refine HLG.out.mono ?_
  rintro e w1 ⟨lg, rfl, hb1, hsm⟩
  have HB1 := Lib.hid (HB0.out.trans (hb1.mono HB0.out.size))
  have HA1 := Lib.hid (HA0.out.keep hb1)
  have HSM := Lib.hid hsm
  clear c0 c1 hb1 HB0 HA0 HLG hsm
  have c0 := HA1.out.cell (i := 0) rfl
  have c1 := HA1.out.cell (i := 1) rfl
  cases lg with
  | true =>
    go_wp2_with fail
    refine (WK w1).mono ?_
    rintro e w' ⟨rfl, hb'⟩
    have HF := Lib.hid (HB1.out.trans (hb'.mono HB1.out.size))
    clear hb'
    go_wp2
    go_ret
    exact ⟨rfl, HF.out⟩
  | false =>
    by_cases hnb : (nb : Int) > 16384
    · go_wp2_with fail
      refine (WK w1).mono ?_
      rintro e w' ⟨rfl, hb'⟩
      have HF := Lib.hid (HB1.out.trans (hb'.mono HB1.out.size))
      clear hb'
      go_wp2
      go_ret
      exact ⟨rfl, HF.out⟩
    have hnf : decide ((nb : Int) > 16384) = false := by simp; omega
    obtain ⟨hs1, hs2⟩ := HSM.out rfl
    have HN := Lib.hid (And.intro hs1 hs2)
    have HSZ := Lib.hid (show sizeP (pcs L) ≤ 200000 ∧ 12 + (bodyP (pcs L)).length ≤ 200000 from ⟨by have h1 := sizeP_sum HROW.out.row; have h2 := HROW.out.hlen; omega, by have h1 := bodyP_sum HROW.out.row; have h2 := HROW.out.hlen; omega⟩)
    have HT := Lib.hid (And.intro t0 t1)
    have HPB := Lib.hid (show ∀ W, Below w.heap.size w W → Calls Try.prog 22 #[.slice ab nb cb] W fun e w' => RdS zb w' e ∧ Below W.heap.size W w' from fun W hW => (PR ab nb cb zb W (HR.out.1.below hW) HR.out.2.1 HR.out.2.2 (by omega)).mono fun e w' ⟨h1, h2⟩ => ⟨h1.short, h2⟩)
    have HWR := Lib.hid (PW tag aq n c L w1 (HROW.out.below HB1.out) (by omega) t0 t1 (by have := HSZ.out; omega))
    clear hs1 hs2 HSM t0 t1
    go_wp2_with fail
    refine HWR.out.mono ?_
    rintro e w2 ⟨aw, cw, rfl, hb2, hr2⟩
    have HB2 := Lib.hid (HB1.out.trans (hb2.mono HB1.out.size))
    have HA2 := Lib.hid (HA1.out.keep hb2)
    clear c0 c1 hb2 HWR
    cases hm : mayB (pcs L) with
    | false =>
      have hz0 : (writeP tag (pcs L)).length = 0 := by unfold writeP; rw [hm]; rfl
      rw [hz0]
      clear hr2 hm hz0
      have HL := Lib.hid (HPB.out w2 HB2.out)
      go_wp2_with fail
      refine HL.out.mono ?_
      rintro e w3 ⟨hrd, hb3⟩
      have HB3 := Lib.hid (HB2.out.trans (hb3.mono HB2.out.size))
      clear HL hb3
      rcases hrd with (rfl | rfl) | ⟨L3, a3, n3, c3, hs3, hp3, hl3, rfl, hrow3, hn3⟩
      · have hbn : Below w3.heap.size w3 (w3.alloc (.cells #[.int .u32 0, .slice none 0 0] 25)) := (Below.refl _ _).alloc (Nat.le_refl _) _
        have hAn : Arr (w3.alloc (.cells #[.int .u32 0, .slice none 0 0] 25)) w3.heap.size 25 [.int .u32 0, .slice none 0 0] := arr_new _ _ _
        have HBn := Lib.hid (HB3.out.trans (hbn.mono HB3.out.size))
        clear hbn
        go_upto_region 9 with fail
        generalize (w3.alloc (.cells #[.int .u32 0, .slice none 0 0] 25)) = wn at *
        have e0 := hAn.cell (i := 0) rfl
        have e1 := hAn.cell (i := 1) rfl
        clear hAn
        go_wp2_with fail
        refine (WK wn).mono ?_
        rintro e w' ⟨rfl, hb'⟩
        have HF := Lib.hid (HBn.out.trans (hb'.mono HBn.out.size))
        clear hb'
        go_wp2
        go_ret
        exact ⟨rfl, HF.out⟩
      · have hbn : Below w3.heap.size w3 (w3.alloc (.cells #[.int .u32 0, .slice none 0 0] 25)) := (Below.refl _ _).alloc (Nat.le_refl _) _
        have hAn : Arr (w3.alloc (.cells #[.int .u32 0, .slice none 0 0] 25)) w3.heap.size 25 [.int .u32 0, .slice none 0 0] := arr_new _ _ _
        have HBn := Lib.hid (HB3.out.trans (hbn.mono HB3.out.size))
        clear hbn
        go_upto_region 9 with fail
        generalize (w3.alloc (.cells #[.int .u32 0, .slice none 0 0] 25)) = wn at *
        have e0 := hAn.cell (i := 0) rfl
        have e1 := hAn.cell (i := 1) rfl
        clear hAn
        go_wp2_with fail
        refine (WK wn).mono ?_
        rintro e w' ⟨rfl, hb'⟩
        have HF := Lib.hid (HBn.out.trans (hb'.mono HBn.out.size))
        clear hb'
        go_wp2
        go_ret
        exact ⟨rfl, HF.out⟩
      · obtain ⟨T, hT⟩ : ∃ T, tagB zb = T := ⟨_, rfl⟩
        obtain ⟨T0, T1⟩ : 0 ≤ T ∧ T < 4294967296 := hT ▸ tagB_in HR.out.2.1 hl3
        rw [hT]
        have hbn : Below w3.heap.size w3 (w3.alloc (.cells #[.int .u32 T, .slice a3 n3 c3] 25)) := (Below.refl _ _).alloc (Nat.le_refl _) _
        have hAn : Arr (w3.alloc (.cells #[.int .u32 T, .slice a3 n3 c3] 25)) w3.heap.size 25 [.int .u32 T, .slice a3 n3 c3] := arr_new _ _ _
        have HBn := Lib.hid (HB3.out.trans (hbn.mono HB3.out.size))
        have hlz := HR.out.1.1
        have hbd := congrArg List.length hp3.body
        rw [List.length_drop, hlz] at hbd
        have hwz : writeP T (pcs L3) = zb := hT ▸ read_is hp3 hs3
        have hpw := PW T a3 n3 c3 L3 (w3.alloc (.cells #[.int .u32 T, .slice a3 n3 c3] 25)) (hrow3.below hbn) hn3 T0 T1 (by omega)
        rw [hwz, hlz] at hpw
        have HPW3 := Lib.hid hpw
        clear hbn hpw hwz hbd hlz hrow3 hp3 hs3 hl3 hT
        go_upto_region 9 with fail
        generalize (w3.alloc (.cells #[.int .u32 T, .slice a3 n3 c3] 25)) = wn at *
        have e0 := hAn.cell (i := 0) rfl
        have e1 := hAn.cell (i := 1) rfl
        clear hAn
        go_wp2_with fail
        refine HPW3.out.mono ?_
        rintro e wm ⟨am, cm, rfl, hbm, hrm⟩
        have HBm := Lib.hid (HBn.out.trans (hbm.mono HBn.out.size))
        have heq := eqBytes_any am ab nb cm cb nb zb zb wm hrm.reads (HR.out.1.below HBm.out) HR.out.2.1 HR.out.2.1 (by omega) (by omega)
        rw [decide_eq_true (rfl : zb = zb)] at heq
        have HEQ := Lib.hid heq
        clear heq hbm hrm HPW3
        go_wp2_with fail
        refine HEQ.out.mono ?_
        rintro e wk ⟨rfl, hbk, _⟩
        have HBk := Lib.hid (HBm.out.trans (hbk.mono HBm.out.size))
        clear hbk HEQ HBm
        go_wp2_with fail
        refine (WK wk).mono ?_
        rintro e w' ⟨rfl, hb'⟩
        have HF := Lib.hid (HBk.out.trans (hb'.mono HBk.out.size))
        clear hb'
        go_wp2
        go_ret
        exact ⟨rfl, HF.out⟩
    | true =>
      obtain ⟨SZ, hSZ⟩ : ∃ SZ, sizeP (pcs L) = SZ := ⟨_, rfl⟩
      have hwl : (writeP tag (pcs L)).length = SZ := by rw [← hSZ]; unfold writeP; rw [if_pos hm]; exact laidP_len (fun c hc => mayB_len hm hc)
      have hpr := PR aw _ cw (writeP tag (pcs L)) w2 hr2.reads (writeP_byt (pcs_ok HROW.out)) hr2.le (by rw [hwl, ← hSZ]; have := HSZ.out; omega)
      have hpr2 := hpr.mono (R' := fun e w' => (∃ M a c, pcs M = pcs L ∧ e = .returned (.tuple #[.agg #[.int .u32 tag, .slice a (pcs L).length c], .int .i64 0]) ∧ RowsCk w' a (pcs L).length c M) ∧ Below w2.heap.size w2 w') (fun e w' ⟨h1, h2⟩ => ⟨h1.again HT.out.1 HT.out.2 hm, h2⟩)
      rw [hwl] at hpr2 ⊢
      rw [pcs_len, HROW.out.hlen] at hpr2
      have HPR := Lib.hid hpr2
      have hsz12 : 12 ≤ SZ := hSZ ▸ sizeP_ge _
      have hmod : (SZ : Int).tmod 4 = 0 := by have h4 := sizeP_mod (pcs L); rw [hSZ] at h4; rw [Int.tmod_eq_emod_of_nonneg (by omega)]; omega
      have hposi : (0 : Int) < (SZ : Int) := by omega
      have HPS := Lib.hid (show ∀ W, Below w.heap.size w W → _ from fun W hW => PS tag aq n c L W (HROW.out.below hW) (by have := HN.out; omega) (by have := HSZ.out; omega))
      rw [hSZ] at HPS
      clear hpr hpr2 hr2 hwl hm hSZ
      go_wp2_with fail
      refine HPR.out.mono ?_
      rintro e w3 ⟨⟨M, a2, c2, hpc, rfl, hrow⟩, hb3⟩
      have HB3 := Lib.hid (HB2.out.trans (hb3.mono HB2.out.size))
      have HA3 := Lib.hid (HA2.out.keep hb3)
      have hb4 : Below w3.heap.size w3 (w3.alloc (.cells #[.int .u32 tag, .slice a2 n c2] 25)) := (Below.refl _ _).alloc (Nat.le_refl _) _
      have hA4 : Arr (w3.alloc (.cells #[.int .u32 tag, .slice a2 n c2] 25)) w3.heap.size 25 [.int .u32 tag, .slice a2 n c2] := arr_new _ _ _
      have HB4 := Lib.hid (HB3.out.trans (hb4.mono HB3.out.size))
      have HX4 := Lib.hid (And.intro (HA3.out.keep hb4) hA4)
      have HRM := Lib.hid (And.intro (hrow.below hb4) hpc)
      clear hb3 hb4 hA4 hrow hpc HPR HB2 HA2
      go_upto_region 6 with fail
      generalize (w3.alloc (.cells #[.int .u32 tag, .slice a2 n c2] 25)) = w4 at *
      generalize w3.heap.size = gi at *
      have c0 := HX4.out.1.cell (i := 0) rfl
      have c1 := HX4.out.1.cell (i := 1) rfl
      have d0 := HX4.out.2.cell (i := 0) rfl
      have d1 := HX4.out.2.cell (i := 1) rfl
      have HSA := Lib.hid (psame_yes tag aq n c L a2 c2 M w4 (HROW.out.below HB4.out) HRM.out.1 HRM.out.2.symm (fun r hr => by have := sumN_mem hr; have := HN.out; omega))
      go_wp2_with fail
      refine HSA.out.mono ?_
      rintro e w5 ⟨rfl, hb5⟩
      have HB5 := Lib.hid (HB4.out.trans (hb5.mono HB4.out.size))
      have hP5 := HX4.out.1.keep hb5
      clear c0 c1 d0 d1 hb5 HSA HRM HX4 HA3 HB3 HB4
      have c0 := hP5.cell (i := 0) rfl
      have c1 := hP5.cell (i := 1) rfl
      have HLS := Lib.hid (HPS.out w5 HB5.out)
      go_wp2_with fail
      refine HLS.out.mono ?_
      rintro e w6 ⟨rfl, hb6⟩
      have HB6 := Lib.hid (HB5.out.trans (hb6.mono HB5.out.size))
      clear c0 c1 hP5 hb6 HLS HPS HB5
      have HL := Lib.hid (HPB.out w6 HB6.out)
      go_wp2_with fail
      refine HL.out.mono ?_
      rintro e w7 ⟨hrd, hb7⟩
      have HB7 := Lib.hid (HB6.out.trans (hb7.mono HB6.out.size))
      clear HL hb7
      rcases hrd with (rfl | rfl) | ⟨L3, a3, n3, c3, hs3, hp3, hl3, rfl, hrow3, hn3⟩
      · have hbn : Below w7.heap.size w7 (w7.alloc (.cells #[.int .u32 0, .slice none 0 0] 25)) := (Below.refl _ _).alloc (Nat.le_refl _) _
        have hAn : Arr (w7.alloc (.cells #[.int .u32 0, .slice none 0 0] 25)) w7.heap.size 25 [.int .u32 0, .slice none 0 0] := arr_new _ _ _
        have HBn := Lib.hid (HB7.out.trans (hbn.mono HB7.out.size))
        clear hbn
        go_upto_region 9 with fail
        generalize (w7.alloc (.cells #[.int .u32 0, .slice none 0 0] 25)) = wn at *
        have e0 := hAn.cell (i := 0) rfl
        have e1 := hAn.cell (i := 1) rfl
        clear hAn
        go_wp2_with fail
        refine (WK wn).mono ?_
        rintro e w' ⟨rfl, hb'⟩
        have HF := Lib.hid (HBn.out.trans (hb'.mono HBn.out.size))
        clear hb'
        go_wp2
        go_ret
        exact ⟨rfl, HF.out⟩
      · have hbn : Below w7.heap.size w7 (w7.alloc (.cells #[.int .u32 0, .slice none 0 0] 25)) := (Below.refl _ _).alloc (Nat.le_refl _) _
        have hAn : Arr (w7.alloc (.cells #[.int .u32 0, .slice none 0 0] 25)) w7.heap.size 25 [.int .u32 0, .slice none 0 0] := arr_new _ _ _
        have HBn := Lib.hid (HB7.out.trans (hbn.mono HB7.out.size))
        clear hbn
        go_upto_region 9 with fail
        generalize (w7.alloc (.cells #[.int .u32 0, .slice none 0 0] 25)) = wn at *
        have e0 := hAn.cell (i := 0) rfl
        have e1 := hAn.cell (i := 1) rfl
        clear hAn
        go_wp2_with fail
        refine (WK wn).mono ?_
        rintro e w' ⟨rfl, hb'⟩
        have HF := Lib.hid (HBn.out.trans (hb'.mono HBn.out.size))
        clear hb'
        go_wp2
        go_ret
        exact ⟨rfl, HF.out⟩
      · obtain ⟨T, hT⟩ : ∃ T, tagB zb = T := ⟨_, rfl⟩
        obtain ⟨T0, T1⟩ : 0 ≤ T ∧ T < 4294967296 := hT ▸ tagB_in HR.out.2.1 hl3
        rw [hT]
        have hbn : Below w7.heap.size w7 (w7.alloc (.cells #[.int .u32 T, .slice a3 n3 c3] 25)) := (Below.refl _ _).alloc (Nat.le_refl _) _
        have hAn : Arr (w7.alloc (.cells #[.int .u32 T, .slice a3 n3 c3] 25)) w7.heap.size 25 [.int .u32 T, .slice a3 n3 c3] := arr_new _ _ _
        have HBn := Lib.hid (HB7.out.trans (hbn.mono HB7.out.size))
        have hlz := HR.out.1.1
        have hbd := congrArg List.length hp3.body
        rw [List.length_drop, hlz] at hbd
        have hwz : writeP T (pcs L3) = zb := hT ▸ read_is hp3 hs3
        have hpw := PW T a3 n3 c3 L3 (w7.alloc (.cells #[.int .u32 T, .slice a3 n3 c3] 25)) (hrow3.below hbn) hn3 T0 T1 (by omega)
        rw [hwz, hlz] at hpw
        have HPW3 := Lib.hid hpw
        clear hbn hpw hwz hbd hlz hrow3 hp3 hs3 hl3 hT
        go_upto_region 9 with fail
        generalize (w7.alloc (.cells #[.int .u32 T, .slice a3 n3 c3] 25)) = wn at *
        have e0 := hAn.cell (i := 0) rfl
        have e1 := hAn.cell (i := 1) rfl
        clear hAn
        go_wp2_with fail
        refine HPW3.out.mono ?_
        rintro e wm ⟨am, cm, rfl, hbm, hrm⟩
        have HBm := Lib.hid (HBn.out.trans (hbm.mono HBn.out.size))
        have heq := eqBytes_any am ab nb cm cb nb zb zb wm hrm.reads (HR.out.1.below HBm.out) HR.out.2.1 HR.out.2.1 (by omega) (by omega)
        rw [decide_eq_true (rfl : zb = zb)] at heq
        have HEQ := Lib.hid heq
        clear heq hbm hrm HPW3
        go_wp2_with fail
        refine HEQ.out.mono ?_
        rintro e wk ⟨rfl, hbk, _⟩
        have HBk := Lib.hid (HBm.out.trans (hbk.mono HBm.out.size))
        clear hbk HEQ HBm
        go_wp2_with fail
        refine (WK wk).mono ?_
        rintro e w' ⟨rfl, hb'⟩
        have HF := Lib.hid (HBk.out.trans (hb'.mono HBk.out.size))
        clear hb'
        go_wp2
        go_ret
        exact ⟨rfl, HF.out⟩
end Go.Proofs.Ytnndlpbbllmpjaa
