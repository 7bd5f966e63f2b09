/-
  The walk of BodiesBack. Written by genback.py.
-/
import Derived.Test.YtlihcckgnnnekaaBdDec
import Derived.Test.YtlihcckgnnnekaaBdMany
import Derived.Deep.DeepCutAuto
import Derived.BigQuiet
import Derived.Deep.QuietTactic
namespace Go.Proofs.Ytlihcckgnnnekaa
open Go.RowKit
set_option linter.unusedVariables false
set_option linter.unusedSimpArgs false
set_option linter.unnecessarySimpa false
theorem putTime12 (k x : Int) (w : World) : Calls Try.prog 43 #[.int .u8 k, .int .i64 x] w fun e w' => ∃ a c, e = .returned (.agg #[.int .u8 k, .int .u8 0, .slice a 12 c]) ∧ Below w.heap.size w w' ∧ Reads w' a 12 (timeB x) ∧ 12 ≤ c := by
  refine (pputTime k x w).mono ?_
  rintro e w' ⟨a, c, rfl, hb, hr⟩
  have el : (enc 1 2 ++ enc 12 2 ++ enc x 8).length = 12 := by simp
  rw [el] at hr ⊢
  exact ⟨a, c, rfl, hb, hr.reads, hr.le⟩
theorem putCum4 (x : Int) (w : World) (h0 : 0 ≤ x) (h1 : x < 4294967296) : Calls Try.prog 45 #[.int .u32 x] w fun e w' => ∃ a c, e = .returned (.agg #[.int .u8 7, .int .u8 0, .slice a 4 c]) ∧ Below w.heap.size w w' ∧ Reads w' a 4 (enc x 4) ∧ 4 ≤ c := by
  refine (pputCum x w h0 h1).mono ?_
  rintro e w' ⟨a, c, rfl, hb, hr⟩
  have el : (enc x 4).length = 4 := by simp
  rw [el] at hr ⊢
  exact ⟨a, c, rfl, hb, hr.reads, hr.le⟩

set_option maxRecDepth 100000 in
set_option maxHeartbeats 3200000 in
theorem bodiesBack_walk (ak : Bool) (d0 d1 d2 : Int) (d3 d4 d5 : Bool) (da : Option Addr) (dn dk : Nat) (dz : List Int) (i0 i1 i2 i3 i4 : Int) (ia : Option Addr) (in' ik : Nat) (iz : List Int) (s0 s1 : Int) (sa : Option Addr) (sn sk : Nat) (sg : List (Int × Int)) (sb : Option Addr) (sm sl : Nat) (sd : List Int) (f0 : Int) (fa : Option Addr) (fn' fk : Nat) (fs : List (Int × Int)) (at' cu : Int) (w : World) (vd0 : (Lit.int .u32 d0).wf = true) (vd1 : (Lit.int .u16 d1).wf = true) (vd2 : (Lit.int .u16 d2).wf = true) (vd : IsRow .u8 w da dn dk dz) (vi0 : (Lit.int .u32 i0).wf = true) (vi1 : (Lit.int .u32 i1).wf = true) (vi2 : (Lit.int .u16 i2).wf = true) (vi3 : (Lit.int .u16 i3).wf = true) (vi4 : (Lit.int .u32 i4).wf = true) (vi : IsRow .u8 w ia in' ik iz) (vs0 : (Lit.int .u32 s0).wf = true) (vs1 : (Lit.int .u32 s1).wf = true) (vsg : Prs w sa sn sg ∧ sn ≤ sk) (vsd : Nums .u32 w sb sm sd ∧ sm ≤ sl) (vf0 : (Lit.int .u32 f0).wf = true) (vfs : Prs w fa fn' fs ∧ fn' ≤ fk) (vat : (Lit.int .i64 at').wf = true) (vcu : (Lit.int .u32 cu).wf = true) :
    Calls Try.prog 8 #[.agg #[.bool ak, .int .u32 d0, .int .u16 d1, .int .u16 d2, .bool d3, .bool d4, .bool d5, .slice da dn dk, .int .u32 i0, .int .u32 i1, .int .u16 i2, .int .u16 i3, .int .u32 i4, .slice ia in' ik, .int .u32 s0, .int .u32 s1, .slice sa sn sk, .slice sb sm sl, .int .u32 f0, .slice fa fn' fk, .int .i64 at', .int .u32 cu]] w fun e w' => e = .returned (.bool true) ∧ Below w.heap.size w w' := by
  obtain ⟨ld0, hd0⟩ : 0 ≤ d0 ∧ d0 < 4294967296 := by have := wf_u32_in vd0; omega
  obtain ⟨ld1, hd1⟩ : 0 ≤ d1 ∧ d1 < 65536 := by have := wf_u16_in vd1; omega
  obtain ⟨ld2, hd2⟩ : 0 ≤ d2 ∧ d2 < 65536 := by have := wf_u16_in vd2; omega
  obtain ⟨li0, hi0⟩ : 0 ≤ i0 ∧ i0 < 4294967296 := by have := wf_u32_in vi0; omega
  obtain ⟨li1, hi1⟩ : 0 ≤ i1 ∧ i1 < 4294967296 := by have := wf_u32_in vi1; omega
  obtain ⟨li2, hi2⟩ : 0 ≤ i2 ∧ i2 < 65536 := by have := wf_u16_in vi2; omega
  obtain ⟨li3, hi3⟩ : 0 ≤ i3 ∧ i3 < 65536 := by have := wf_u16_in vi3; omega
  obtain ⟨li4, hi4⟩ : 0 ≤ i4 ∧ i4 < 4294967296 := by have := wf_u32_in vi4; omega
  obtain ⟨ls0, hs0⟩ : 0 ≤ s0 ∧ s0 < 4294967296 := by have := wf_u32_in vs0; omega
  obtain ⟨ls1, hs1⟩ : 0 ≤ s1 ∧ s1 < 4294967296 := by have := wf_u32_in vs1; omega
  obtain ⟨lf0, hf0⟩ : 0 ≤ f0 ∧ f0 < 4294967296 := by have := wf_u32_in vf0; omega
  obtain ⟨lcu, hcu⟩ : 0 ≤ cu ∧ cu < 4294967296 := by have := wf_u32_in vcu; omega
  obtain ⟨lat, hat⟩ : -9223372036854775808 ≤ at' ∧ at' < 9223372036854775808 := by have := wf_i64_in vat; omega
  obtain ⟨hrd, hzd, hcd, _⟩ := vd.reads
  obtain ⟨hri, hzi, hci, _⟩ := vi.reads
  generalize dz.take dn = dz at hrd hzd
  generalize iz.take in' = iz at hri hzi
  obtain ⟨hsg, hsk⟩ := vsg
  obtain ⟨hsd, hsl⟩ := vsd
  obtain ⟨hfs, hfk⟩ := vfs
  clear vd0 vd1 vd2 vd vi0 vi1 vi2 vi3 vi4 vi vs0 vs1 vf0 vat vcu
  obtain ⟨wb, hwb⟩ : ∃ wb, w.alloc (.cells #[.bool ak, .int .u32 d0, .int .u16 d1, .int .u16 d2, .bool d3, .bool d4, .bool d5, .slice da dn dk, .int .u32 i0, .int .u32 i1, .int .u16 i2, .int .u16 i3, .int .u32 i4, .slice ia in' ik, .int .u32 s0, .int .u32 s1, .slice sa sn sk, .slice sb sm sl, .int .u32 f0, .slice fa fn' fk, .int .i64 at', .int .u32 cu] 77) = wb := ⟨_, rfl⟩
  have hbb : Below w.heap.size w wb := by rw [← hwb]; exact (Below.refl _ _).alloc (Nat.le_refl _) _
  have hXb : Arr wb w.heap.size 77 [.bool ak, .int .u32 d0, .int .u16 d1, .int .u16 d2, .bool d3, .bool d4, .bool d5, .slice da dn dk, .int .u32 i0, .int .u32 i1, .int .u16 i2, .int .u16 i3, .int .u32 i4, .slice ia in' ik, .int .u32 s0, .int .u32 s1, .slice sa sn sk, .slice sb sm sl, .int .u32 f0, .slice fa fn' fk, .int .i64 at', .int .u32 cu] := by rw [← hwb]; exact arr_new _ _ _
  have c0 := hXb.cell (i := 0) rfl
  have c1 := hXb.cell (i := 1) rfl
  have c2 := hXb.cell (i := 2) rfl
  have c3 := hXb.cell (i := 3) rfl
  have c4 := hXb.cell (i := 4) rfl
  have c5 := hXb.cell (i := 5) rfl
  have c6 := hXb.cell (i := 6) rfl
  have c7 := hXb.cell (i := 7) rfl
  have c8 := hXb.cell (i := 8) rfl
  have c9 := hXb.cell (i := 9) rfl
  have c10 := hXb.cell (i := 10) rfl
  have c11 := hXb.cell (i := 11) rfl
  have c12 := hXb.cell (i := 12) rfl
  have c13 := hXb.cell (i := 13) rfl
  have c14 := hXb.cell (i := 14) rfl
  have c15 := hXb.cell (i := 15) rfl
  have c16 := hXb.cell (i := 16) rfl
  have c17 := hXb.cell (i := 17) rfl
  have c18 := hXb.cell (i := 18) rfl
  have c19 := hXb.cell (i := 19) rfl
  have c20 := hXb.cell (i := 20) rfl
  have c21 := hXb.cell (i := 21) rfl
  have HM := Lib.hid (many_any s0 s1 sa sn sk sb sm sl f0 fa fn' fk wb)
  have H0 := Lib.hid (And.intro hbb hXb)
  clear hbb hXb
  by_cases hmany : 2048 < sn ∨ 2048 < sm ∨ 2048 < fn'
  · rw [decide_eq_true hmany] at HM
    go_enter Try.func8, Try.ntmps8
    go_wp2_with fail
    refine HM.out.mono ?_
    rintro e w1 ⟨rfl, hb1⟩
    have HB1 := Lib.hid (H0.out.1.trans (hb1.mono H0.out.1.size))
    clear hb1 HM H0 hmany
    go_wp2_with (go_at_call 13; refine (works_any _).mono ?_; rintro e w' ⟨rfl, hb⟩)
    go_ret
    exact ⟨rfl, HB1.out.trans (hb.mono HB1.out.size)⟩
  rw [decide_eq_false hmany] at HM
  obtain ⟨hsn, hsm, hfn⟩ : sn ≤ 2048 ∧ sm ≤ 2048 ∧ fn' ≤ 2048 := by omega
  clear hmany
  by_cases hdn : 8192 < dn
  · have g : (8192 : Int) < (dn : Int) := by omega
    go_enter Try.func8, Try.ntmps8
    go_wp2_with fail
    refine HM.out.mono ?_
    rintro e w1 ⟨rfl, hb1⟩
    have HB1 := Lib.hid (H0.out.1.trans (hb1.mono H0.out.1.size))
    have hx1 := H0.out.2.keep hb1
    clear c0 c1 c2 c3 c4 c5 c6 c7 c8 c9 c10 c11 c12 c13 c14 c15 c16 c17 c18 c19 c20 c21
    have c0 := hx1.cell (i := 0) rfl
    have c1 := hx1.cell (i := 1) rfl
    have c2 := hx1.cell (i := 2) rfl
    have c3 := hx1.cell (i := 3) rfl
    have c4 := hx1.cell (i := 4) rfl
    have c5 := hx1.cell (i := 5) rfl
    have c6 := hx1.cell (i := 6) rfl
    have c7 := hx1.cell (i := 7) rfl
    have c8 := hx1.cell (i := 8) rfl
    have c9 := hx1.cell (i := 9) rfl
    have c10 := hx1.cell (i := 10) rfl
    have c11 := hx1.cell (i := 11) rfl
    have c12 := hx1.cell (i := 12) rfl
    have c13 := hx1.cell (i := 13) rfl
    have c14 := hx1.cell (i := 14) rfl
    have c15 := hx1.cell (i := 15) rfl
    have c16 := hx1.cell (i := 16) rfl
    have c17 := hx1.cell (i := 17) rfl
    have c18 := hx1.cell (i := 18) rfl
    have c19 := hx1.cell (i := 19) rfl
    have c20 := hx1.cell (i := 20) rfl
    have c21 := hx1.cell (i := 21) rfl
    have HX1 := Lib.hid hx1
    clear hb1 HM H0 hx1
    go_wp2_with (go_at_call 13; refine (works_any _).mono ?_; rintro e w' ⟨rfl, hb⟩)
    go_ret
    exact ⟨rfl, HB1.out.trans (hb.mono HB1.out.size)⟩
  have gd : ¬ (8192 : Int) < (dn : Int) := by omega
  by_cases hin : 8192 < in'
  · have g : (8192 : Int) < (in' : Int) := by omega
    go_enter Try.func8, Try.ntmps8
    go_wp2_with fail
    refine HM.out.mono ?_
    rintro e w1 ⟨rfl, hb1⟩
    have HB1 := Lib.hid (H0.out.1.trans (hb1.mono H0.out.1.size))
    have hx1 := H0.out.2.keep hb1
    clear c0 c1 c2 c3 c4 c5 c6 c7 c8 c9 c10 c11 c12 c13 c14 c15 c16 c17 c18 c19 c20 c21
    have c0 := hx1.cell (i := 0) rfl
    have c1 := hx1.cell (i := 1) rfl
    have c2 := hx1.cell (i := 2) rfl
    have c3 := hx1.cell (i := 3) rfl
    have c4 := hx1.cell (i := 4) rfl
    have c5 := hx1.cell (i := 5) rfl
    have c6 := hx1.cell (i := 6) rfl
    have c7 := hx1.cell (i := 7) rfl
    have c8 := hx1.cell (i := 8) rfl
    have c9 := hx1.cell (i := 9) rfl
    have c10 := hx1.cell (i := 10) rfl
    have c11 := hx1.cell (i := 11) rfl
    have c12 := hx1.cell (i := 12) rfl
    have c13 := hx1.cell (i := 13) rfl
    have c14 := hx1.cell (i := 14) rfl
    have c15 := hx1.cell (i := 15) rfl
    have c16 := hx1.cell (i := 16) rfl
    have c17 := hx1.cell (i := 17) rfl
    have c18 := hx1.cell (i := 18) rfl
    have c19 := hx1.cell (i := 19) rfl
    have c20 := hx1.cell (i := 20) rfl
    have c21 := hx1.cell (i := 21) rfl
    have HX1 := Lib.hid hx1
    clear hb1 HM H0 hx1
    go_wp2_with (go_at_call 13; refine (works_any _).mono ?_; rintro e w' ⟨rfl, hb⟩)
    go_ret
    exact ⟨rfl, HB1.out.trans (hb.mono HB1.out.size)⟩
  have gi : ¬ (8192 : Int) < (in' : Int) := by omega
  have HD := Lib.hid (And.intro hrd (And.intro hzd hcd))
  have HI := Lib.hid (And.intro hri (And.intro hzi hci))
  have HS := Lib.hid (And.intro hsg hsd)
  have HF := Lib.hid hfs
  clear hrd hzd hcd hri hzi hci hsg hsd hfs
  go_enter Try.func8, Try.ntmps8
  go_wp2_with fail
  refine HM.out.mono ?_
  rintro e w1 ⟨rfl, hb1⟩
  have HB1 := Lib.hid (H0.out.1.trans (hb1.mono H0.out.1.size))
  have hx1 := H0.out.2.keep hb1
  clear c0 c1 c2 c3 c4 c5 c6 c7 c8 c9 c10 c11 c12 c13 c14 c15 c16 c17 c18 c19 c20 c21
  have c0 := hx1.cell (i := 0) rfl
  have c1 := hx1.cell (i := 1) rfl
  have c2 := hx1.cell (i := 2) rfl
  have c3 := hx1.cell (i := 3) rfl
  have c4 := hx1.cell (i := 4) rfl
  have c5 := hx1.cell (i := 5) rfl
  have c6 := hx1.cell (i := 6) rfl
  have c7 := hx1.cell (i := 7) rfl
  have c8 := hx1.cell (i := 8) rfl
  have c9 := hx1.cell (i := 9) rfl
  have c10 := hx1.cell (i := 10) rfl
  have c11 := hx1.cell (i := 11) rfl
  have c12 := hx1.cell (i := 12) rfl
  have c13 := hx1.cell (i := 13) rfl
  have c14 := hx1.cell (i := 14) rfl
  have c15 := hx1.cell (i := 15) rfl
  have c16 := hx1.cell (i := 16) rfl
  have c17 := hx1.cell (i := 17) rfl
  have c18 := hx1.cell (i := 18) rfl
  have c19 := hx1.cell (i := 19) rfl
  have c20 := hx1.cell (i := 20) rfl
  have c21 := hx1.cell (i := 21) rfl
  have HX1 := Lib.hid hx1
  clear hb1 HM H0 hx1
  have hld : dn = dz.length := HD.out.1.1.symm
  have HP := Lib.hid (pputData d0 d1 d2 d3 d4 d5 da dn dk dz w1 (HD.out.1.below HB1.out) (by omega) ld0 hd0 ld1 hd1 ld2 hd2)
  clear hld
  go_wp2_with fail
  refine HP.out.mono ?_
  rintro e w2 ⟨pa, pc, rfl, hb2, hr2⟩
  clear HP c0 c1 c2 c3 c4 c5 c6 c7 c8 c9 c10 c11 c12 c13 c14 c15 c16 c17 c18 c19 c20 c21
  have HG := Lib.hid (backData d0 d1 d2 d3 d4 d5 pa _ pc dz w2 hr2.reads hr2.le HD.out.2.1 (by have := HD.out.1.1; omega) ld0 hd0 ld1 hd1 ld2 hd2)
  have HB2 := Lib.hid (HB1.out.trans (hb2.mono HB1.out.size))
  have HX2 := Lib.hid (HX1.out.keep hb2)
  clear hb2 hr2 HB1 HX1
  go_wp2_with fail
  refine HG.out.mono ?_
  rintro e w3 ⟨g0, g1, g2, g3, g4, g5, ga, gl, gc, er, rfl, hb3, hyes, hno⟩
  have HB3 := Lib.hid (HB2.out.trans (hb3.mono HB2.out.size))
  have HX3 := Lib.hid (HX2.out.keep hb3)
  have HY := Lib.hid (And.intro hyes hno)
  clear hb3 hyes hno HG HB2 HX2
  go_upto_region 4 with fail
  have hbv : Below w3.heap.size w3 (w3.alloc (.cells #[.int .u32 g0, .int .u16 g1, .int .u16 g2, .bool g3, .bool g4, .bool g5, .slice ga gl gc] 26)) := (Below.refl _ _).alloc (Nat.le_refl _) _
  have hAv : Arr (w3.alloc (.cells #[.int .u32 g0, .int .u16 g1, .int .u16 g2, .bool g3, .bool g4, .bool g5, .slice ga gl gc] 26)) w3.heap.size 26 [.int .u32 g0, .int .u16 g1, .int .u16 g2, .bool g3, .bool g4, .bool g5, .slice ga gl gc] := arr_new _ _ _
  have HBv := Lib.hid (HB3.out.trans (hbv.mono HB3.out.size))
  have HXv := Lib.hid (HX3.out.keep hbv)
  have HAv := Lib.hid hAv
  have HYv := Lib.hid (fun h => ((HY.out.1 h).2.2.2).below hbv)
  clear hbv hAv
  generalize (w3.alloc (.cells #[.int .u32 g0, .int .u16 g1, .int .u16 g2, .bool g3, .bool g4, .bool g5, .slice ga gl gc] 26)) = w4 at HBv HXv HAv HYv ⊢
  generalize w3.heap.size = gd at HAv ⊢
  clear HB3 HX3
  go_cut [64] (fun s wx => s = .bool false ∧ Below w.heap.size w wx ∧ Arr wx w.heap.size 77 [.bool ak, .int .u32 d0, .int .u16 d1, .int .u16 d2, .bool d3, .bool d4, .bool d5, .slice da dn dk, .int .u32 i0, .int .u32 i1, .int .u16 i2, .int .u16 i3, .int .u32 i4, .slice ia in' ik, .int .u32 s0, .int .u32 s1, .slice sa sn sk, .slice sb sm sl, .int .u32 f0, .slice fa fn' fk, .int .i64 at', .int .u32 cu])
  case first =>
    have c0 := HXv.out.cell (i := 0) rfl
    have c1 := HXv.out.cell (i := 1) rfl
    have c2 := HXv.out.cell (i := 2) rfl
    have c3 := HXv.out.cell (i := 3) rfl
    have c4 := HXv.out.cell (i := 4) rfl
    have c5 := HXv.out.cell (i := 5) rfl
    have c6 := HXv.out.cell (i := 6) rfl
    have c7 := HXv.out.cell (i := 7) rfl
    have c8 := HXv.out.cell (i := 8) rfl
    have c9 := HXv.out.cell (i := 9) rfl
    have c10 := HXv.out.cell (i := 10) rfl
    have c11 := HXv.out.cell (i := 11) rfl
    have c12 := HXv.out.cell (i := 12) rfl
    have c13 := HXv.out.cell (i := 13) rfl
    have c14 := HXv.out.cell (i := 14) rfl
    have c15 := HXv.out.cell (i := 15) rfl
    have c16 := HXv.out.cell (i := 16) rfl
    have c17 := HXv.out.cell (i := 17) rfl
    have c18 := HXv.out.cell (i := 18) rfl
    have c19 := HXv.out.cell (i := 19) rfl
    have c20 := HXv.out.cell (i := 20) rfl
    have c21 := HXv.out.cell (i := 21) rfl
    by_cases hd0 : 0 < dn
    · have gdn : (0 : Int) < (dn : Int) := by omega
      have hlz : dz.length = dn := HD.out.1.1
      obtain ⟨⟨rfl, rfl, rfl, rfl, rfl, rfl⟩, e1, rfl, hrg⟩ := HY.out.1 (by omega)
      have hrg4 := HYv.out (by omega)
      rw [hlz] at e1 hrg4
      subst e1
      clear hrg HY HYv
      have d0 := HAv.out.cell (i := 0) rfl
      have d1 := HAv.out.cell (i := 1) rfl
      have d2 := HAv.out.cell (i := 2) rfl
      have d3 := HAv.out.cell (i := 3) rfl
      have d4 := HAv.out.cell (i := 4) rfl
      have d5 := HAv.out.cell (i := 5) rfl
      have d6 := HAv.out.cell (i := 6) rfl
      have HSM := Lib.hid (sameData_yes g0 g1 g2 g3 g4 g5 ga da gl gc dk dz w4 hrg4 (HD.out.1.below HBv.out) HD.out.2.1 (by omega))
      clear hrg4 hlz hd0
      go_wp2_with fail
      refine HSM.out.mono ?_
      rintro e w5 ⟨rfl, hb5⟩
      have HB5 := Lib.hid (HBv.out.trans (hb5.mono HBv.out.size))
      have HX5 := Lib.hid (HXv.out.keep hb5)
      clear c0 c1 c2 c3 c4 c5 c6 c7 c8 c9 c10 c11 c12 c13 c14 c15 c16 c17 c18 c19 c20 c21 d0 d1 d2 d3 d4 d5 d6 hb5 HSM
      go_wp2_with fail
      go_meet
      case rel => exact ⟨rfl, HB5.out, HX5.out⟩
    · obtain rfl := HY.out.2 (by have := HD.out.1.1; omega)
      obtain rfl : dn = 0 := by omega
      clear HY HYv hd0
      go_wp2_with fail
      go_meet
      case rel => exact ⟨rfl, HBv.out, HXv.out⟩
  case rest =>
  obtain ⟨rfl, hbx, hxx⟩ := hcut
  have HB5 := Lib.hid hbx
  have HX5 := Lib.hid hxx
  clear hbx hxx HBv HXv HAv HYv HY
  have c0 := HX5.out.cell (i := 0) rfl
  have c1 := HX5.out.cell (i := 1) rfl
  have c2 := HX5.out.cell (i := 2) rfl
  have c3 := HX5.out.cell (i := 3) rfl
  have c4 := HX5.out.cell (i := 4) rfl
  have c5 := HX5.out.cell (i := 5) rfl
  have c6 := HX5.out.cell (i := 6) rfl
  have c7 := HX5.out.cell (i := 7) rfl
  have c8 := HX5.out.cell (i := 8) rfl
  have c9 := HX5.out.cell (i := 9) rfl
  have c10 := HX5.out.cell (i := 10) rfl
  have c11 := HX5.out.cell (i := 11) rfl
  have c12 := HX5.out.cell (i := 12) rfl
  have c13 := HX5.out.cell (i := 13) rfl
  have c14 := HX5.out.cell (i := 14) rfl
  have c15 := HX5.out.cell (i := 15) rfl
  have c16 := HX5.out.cell (i := 16) rfl
  have c17 := HX5.out.cell (i := 17) rfl
  have c18 := HX5.out.cell (i := 18) rfl
  have c19 := HX5.out.cell (i := 19) rfl
  have c20 := HX5.out.cell (i := 20) rfl
  have c21 := HX5.out.cell (i := 21) rfl
  go_upto_if 71 with fail
  go_cut [5, 6] from 72 to 80 (fun a b wx => ∃ (kd : Int) (cb : Bool) (ja : Option Addr) (jn jk : Nat) (jz : List Int), a = .int .u8 kd ∧ b = .bool cb ∧ (Below w.heap.size w wx ∧ Arr wx w.heap.size 77 [.bool ak, .int .u32 d0, .int .u16 d1, .int .u16 d2, .bool d3, .bool d4, .bool d5, .slice da dn dk, .int .u32 i0, .int .u32 i1, .int .u16 i2, .int .u16 i3, .int .u32 i4, .slice ja jn jk, .int .u32 s0, .int .u32 s1, .slice sa sn sk, .slice sb sm sl, .int .u32 f0, .slice fa fn' fk, .int .i64 at', .int .u32 cu]) ∧ Reads wx ja jn jz ∧ Byt jz ∧ jn ≤ 8192 ∧ (kd = 2 ∨ jz = []) ∧ (kd = 1 ∨ kd = 2) ∧ cb = (decide (kd = 1) || (decide (kd = 2) && decide (0 < jz.length))))
  case first =>
    have hlz : iz.length = in' := HI.out.1.1
    have fr := HX5.out.free 13
    cases ak with
    | true =>
      by_cases hi0 : 0 < in'
      · have gin : (0 : Int) < (in' : Int) := by omega
        go_wp2_with fail
        go_meet
        case rel => exact ⟨2, true, ia, in', ik, iz, rfl, rfl, ⟨HB5.out, HX5.out⟩, HI.out.1.below HB5.out, HI.out.2.1, (by omega), .inl rfl, .inr rfl, (by rw [hlz, decide_eq_true hi0]; rfl)⟩
      · obtain rfl : in' = 0 := by omega
        go_wp2_with fail
        go_meet
        case rel => exact ⟨2, false, ia, 0, ik, iz, rfl, rfl, ⟨HB5.out, HX5.out⟩, HI.out.1.below HB5.out, HI.out.2.1, (by omega), .inl rfl, .inr rfl, (by rw [hlz]; rfl)⟩
    | false =>
      by_cases hi0 : 0 < in'
      · have gin : ((in' : Int) == 0) = false := by simp; omega
        go_wp2_with fail
        go_meet
        case rel => exact ⟨1, true, none, 0, 0, [], rfl, rfl, ⟨HB5.out.setCell (p := ⟨w.heap.size, 13, none⟩) (Nat.le_refl _) _, HX5.out.set 13 _⟩, ⟨rfl, .inl rfl⟩, Byt.nil, (by omega), .inr rfl, .inl rfl, rfl⟩
      · obtain rfl : in' = 0 := by omega
        have hj : iz = [] := List.eq_nil_of_length_eq_zero hlz
        go_wp2_with fail
        go_meet
        case rel => exact ⟨1, true, ia, 0, ik, iz, rfl, rfl, ⟨HB5.out, HX5.out⟩, HI.out.1.below HB5.out, HI.out.2.1, (by omega), .inr hj, .inl rfl, rfl⟩
  case rest =>
  obtain ⟨kd, cb, ja, jn, jk, jz, rfl, rfl, ⟨hbx, hxx⟩, hrj, hzj, hjn, hkj, hkd, hcb⟩ := hcut
  have HB6 := Lib.hid hbx
  have HX6 := Lib.hid hxx
  have HJ := Lib.hid (And.intro hrj (And.intro hzj (And.intro hkj (And.intro hkd hcb))))
  clear hbx hxx hrj hzj hkj hkd hcb HB5 HX5 HI
  clear c0 c1 c2 c3 c4 c5 c6 c7 c8 c9 c10 c11 c12 c13 c14 c15 c16 c17 c18 c19 c20 c21
  have c0 := HX6.out.cell (i := 0) rfl
  have c1 := HX6.out.cell (i := 1) rfl
  have c2 := HX6.out.cell (i := 2) rfl
  have c3 := HX6.out.cell (i := 3) rfl
  have c4 := HX6.out.cell (i := 4) rfl
  have c5 := HX6.out.cell (i := 5) rfl
  have c6 := HX6.out.cell (i := 6) rfl
  have c7 := HX6.out.cell (i := 7) rfl
  have c8 := HX6.out.cell (i := 8) rfl
  have c9 := HX6.out.cell (i := 9) rfl
  have c10 := HX6.out.cell (i := 10) rfl
  have c11 := HX6.out.cell (i := 11) rfl
  have c12 := HX6.out.cell (i := 12) rfl
  have c13 := HX6.out.cell (i := 13) rfl
  have c14 := HX6.out.cell (i := 14) rfl
  have c15 := HX6.out.cell (i := 15) rfl
  have c16 := HX6.out.cell (i := 16) rfl
  have c17 := HX6.out.cell (i := 17) rfl
  have c18 := HX6.out.cell (i := 18) rfl
  have c19 := HX6.out.cell (i := 19) rfl
  have c20 := HX6.out.cell (i := 20) rfl
  have c21 := HX6.out.cell (i := 21) rfl
  have HP := Lib.hid (pputInit kd i0 i1 i2 i3 i4 ja jn jk jz wc (HJ.out.1) (by omega) li0 hi0 li1 hi1 li2 hi2 li3 hi3 li4 hi4)
  go_wp2_with fail
  refine HP.out.mono ?_
  rintro e w7 ⟨pb, pe, rfl, hb7, hr7⟩
  clear HP
  clear c0 c1 c2 c3 c4 c5 c6 c7 c8 c9 c10 c11 c12 c13 c14 c15 c16 c17 c18 c19 c20 c21
  have HG := Lib.hid (backInit kd i0 i1 i2 i3 i4 pb _ pe jz w7 hr7.reads hr7.le HJ.out.2.1 (by have := HJ.out.1.1; omega) HJ.out.2.2.1 li0 hi0 li1 hi1 li2 hi2 li3 hi3 li4 hi4)
  have HB7 := Lib.hid (HB6.out.trans (hb7.mono HB6.out.size))
  have HX7 := Lib.hid (HX6.out.keep hb7)
  have HC7 := Lib.hid hb7
  clear hb7 hr7 HB6 HX6
  go_wp2_with fail
  refine HG.out.mono ?_
  rintro e w8 ⟨g0, g1, g2, g3, g4, ga, gl, gc, er, rfl, hb8, hyes, hno⟩
  have HB8 := Lib.hid (HB7.out.trans (hb8.mono HB7.out.size))
  have HX8 := Lib.hid (HX7.out.keep hb8)
  have HY := Lib.hid (And.intro hyes hno)
  have HC8 := Lib.hid (HC7.out.trans (hb8.mono HC7.out.size))
  clear hb8 hyes hno HG HB7 HX7 HC7
  go_upto_region 15 with fail
  have hbv : Below w8.heap.size w8 (w8.alloc (.cells #[.int .u32 g0, .int .u32 g1, .int .u16 g2, .int .u16 g3, .int .u32 g4, .slice ga gl gc] 43)) := (Below.refl _ _).alloc (Nat.le_refl _) _
  have hAv : Arr (w8.alloc (.cells #[.int .u32 g0, .int .u32 g1, .int .u16 g2, .int .u16 g3, .int .u32 g4, .slice ga gl gc] 43)) w8.heap.size 43 [.int .u32 g0, .int .u32 g1, .int .u16 g2, .int .u16 g3, .int .u32 g4, .slice ga gl gc] := arr_new _ _ _
  have HBv := Lib.hid (HB8.out.trans (hbv.mono HB8.out.size))
  have HXv := Lib.hid (HX8.out.keep hbv)
  have HAv := Lib.hid hAv
  have HYv := Lib.hid (fun h => ((HY.out.1 h).2.2.2).below hbv)
  have HJv := Lib.hid (HJ.out.1.below (HC8.out.trans (hbv.mono HC8.out.size)))
  clear hbv hAv HC8
  generalize (w8.alloc (.cells #[.int .u32 g0, .int .u32 g1, .int .u16 g2, .int .u16 g3, .int .u32 g4, .slice ga gl gc] 43)) = w9 at HBv HXv HAv HYv HJv ⊢
  generalize w8.heap.size = gi' at HAv ⊢
  clear HB8 HX8
  have HIK := Lib.hid (show initOk kd i0 i2 i3 jz.length = (decide (i0 ≠ 0) && (decide (i2 ≠ 0) && (decide (i3 ≠ 0) && cb))) from by rw [HJ.out.2.2.2.2]; rfl)
  go_cut [121] from 89 to 121 (fun s wx => s = .bool false ∧ Below w.heap.size w wx ∧ Arr wx w.heap.size 77 [.bool ak, .int .u32 d0, .int .u16 d1, .int .u16 d2, .bool d3, .bool d4, .bool d5, .slice da dn dk, .int .u32 i0, .int .u32 i1, .int .u16 i2, .int .u16 i3, .int .u32 i4, .slice ja jn jk, .int .u32 s0, .int .u32 s1, .slice sa sn sk, .slice sb sm sl, .int .u32 f0, .slice fa fn' fk, .int .i64 at', .int .u32 cu])
  case first =>
    have c0 := HXv.out.cell (i := 0) rfl
    have c1 := HXv.out.cell (i := 1) rfl
    have c2 := HXv.out.cell (i := 2) rfl
    have c3 := HXv.out.cell (i := 3) rfl
    have c4 := HXv.out.cell (i := 4) rfl
    have c5 := HXv.out.cell (i := 5) rfl
    have c6 := HXv.out.cell (i := 6) rfl
    have c7 := HXv.out.cell (i := 7) rfl
    have c8 := HXv.out.cell (i := 8) rfl
    have c9 := HXv.out.cell (i := 9) rfl
    have c10 := HXv.out.cell (i := 10) rfl
    have c11 := HXv.out.cell (i := 11) rfl
    have c12 := HXv.out.cell (i := 12) rfl
    have c13 := HXv.out.cell (i := 13) rfl
    have c14 := HXv.out.cell (i := 14) rfl
    have c15 := HXv.out.cell (i := 15) rfl
    have c16 := HXv.out.cell (i := 16) rfl
    have c17 := HXv.out.cell (i := 17) rfl
    have c18 := HXv.out.cell (i := 18) rfl
    have c19 := HXv.out.cell (i := 19) rfl
    have c20 := HXv.out.cell (i := 20) rfl
    have c21 := HXv.out.cell (i := 21) rfl
    cases cb with
    | false =>
      obtain rfl := HY.out.2 (by rw [HIK.out]; simp)
      clear HY HYv HIK
      go_wp2_with fail
      go_meet
      case rel => exact ⟨rfl, HBv.out, HXv.out⟩
    | true =>
    by_cases zi0 : i0 = 0
    · obtain rfl := HY.out.2 (by rw [HIK.out]; simp [zi0])
      clear HY HYv HIK
      subst zi0
      go_wp2_with fail
      go_meet
      case rel => exact ⟨rfl, HBv.out, HXv.out⟩
    have ei0 : (i0 == 0) = false := by simpa using zi0
    have ni0 : (i0 != 0) = true := by simpa using zi0
    by_cases zi2 : i2 = 0
    · obtain rfl := HY.out.2 (by rw [HIK.out]; simp [zi2])
      clear HY HYv HIK
      subst zi2
      go_wp2_with fail
      go_meet
      case rel => exact ⟨rfl, HBv.out, HXv.out⟩
    have ei2 : (i2 == 0) = false := by simpa using zi2
    have ni2 : (i2 != 0) = true := by simpa using zi2
    by_cases zi3 : i3 = 0
    · obtain rfl := HY.out.2 (by rw [HIK.out]; simp [zi3])
      clear HY HYv HIK
      subst zi3
      go_wp2_with fail
      go_meet
      case rel => exact ⟨rfl, HBv.out, HXv.out⟩
    have ei3 : (i3 == 0) = false := by simpa using zi3
    have ni3 : (i3 != 0) = true := by simpa using zi3
    have hok : initOk kd i0 i2 i3 jz.length = true := by rw [HIK.out]; simp [zi0, zi2, zi3]
    have hlz : jz.length = jn := HJ.out.1.1
    obtain ⟨⟨rfl, rfl, rfl, rfl, rfl⟩, e1, rfl, hrg⟩ := HY.out.1 hok
    have hrg4 := HYv.out hok
    rw [hlz] at e1 hrg4
    subst e1
    have d0 := HAv.out.cell (i := 0) rfl
    have d1 := HAv.out.cell (i := 1) rfl
    have d2 := HAv.out.cell (i := 2) rfl
    have d3 := HAv.out.cell (i := 3) rfl
    have d4 := HAv.out.cell (i := 4) rfl
    have d5 := HAv.out.cell (i := 5) rfl
    have hrj4 := HJv.out
    have HSM := Lib.hid (sameInit_yes g0 g1 g2 g3 g4 ga ja gl gc jk jz w9 hrg4 hrj4 HJ.out.2.1 (by omega))
    clear hrg hrg4 hrj4 hlz HY HYv HIK hok zi0 zi2 zi3
    go_wp2_with fail
    refine HSM.out.mono ?_
    rintro e w10 ⟨rfl, hb10⟩
    have HB10 := Lib.hid (HBv.out.trans (hb10.mono HBv.out.size))
    have HX10 := Lib.hid (HXv.out.keep hb10)
    clear c0 c1 c2 c3 c4 c5 c6 c7 c8 c9 c10 c11 c12 c13 c14 c15 c16 c17 c18 c19 c20 c21 d0 d1 d2 d3 d4 d5 hb10 HSM
    go_wp2_with fail
    go_meet
    case rel => exact ⟨rfl, HB10.out, HX10.out⟩
  case rest =>
  obtain ⟨rfl, hbx, hxx⟩ := hcut
  have HB11 := Lib.hid hbx
  have HX11 := Lib.hid hxx
  clear hbx hxx HBv HXv HAv HYv HJv HY HJ HIK HD
  have c0 := HX11.out.cell (i := 0) rfl
  have c1 := HX11.out.cell (i := 1) rfl
  have c2 := HX11.out.cell (i := 2) rfl
  have c3 := HX11.out.cell (i := 3) rfl
  have c4 := HX11.out.cell (i := 4) rfl
  have c5 := HX11.out.cell (i := 5) rfl
  have c6 := HX11.out.cell (i := 6) rfl
  have c7 := HX11.out.cell (i := 7) rfl
  have c8 := HX11.out.cell (i := 8) rfl
  have c9 := HX11.out.cell (i := 9) rfl
  have c10 := HX11.out.cell (i := 10) rfl
  have c11 := HX11.out.cell (i := 11) rfl
  have c12 := HX11.out.cell (i := 12) rfl
  have c13 := HX11.out.cell (i := 13) rfl
  have c14 := HX11.out.cell (i := 14) rfl
  have c15 := HX11.out.cell (i := 15) rfl
  have c16 := HX11.out.cell (i := 16) rfl
  have c17 := HX11.out.cell (i := 17) rfl
  have c18 := HX11.out.cell (i := 18) rfl
  have c19 := HX11.out.cell (i := 19) rfl
  have c20 := HX11.out.cell (i := 20) rfl
  have c21 := HX11.out.cell (i := 21) rfl
  have HP := Lib.hid (pputSack s0 s1 sa sn sk sg sb sm sl sd wc (HS.out.1.below HB11.out (Nat.le_refl _)) (HS.out.2.below HB11.out (Nat.le_refl _)) (by omega) (by omega) ls0 hs0 ls1 hs1)
  go_wp2_with fail
  refine HP.out.mono ?_
  rintro e w12 ⟨pa', pc', rfl, hb12, hr12⟩
  clear HP
  clear c0 c1 c2 c3 c4 c5 c6 c7 c8 c9 c10 c11 c12 c13 c14 c15 c16 c17 c18 c19 c20 c21
  have HG := Lib.hid (backSack s0 s1 pa' _ pc' sg sd w12 hr12.reads hr12.le HS.out.1.2.1 (nums_in HS.out.2) (by have := HS.out.1.1; omega) (by have := HS.out.2.1; omega) ls0 hs0 ls1 hs1)
  have HB12 := Lib.hid (HB11.out.trans (hb12.mono HB11.out.size))
  have HX12 := Lib.hid (HX11.out.keep hb12)
  clear hb12 hr12 HB11 HX11
  go_wp2_with fail
  refine HG.out.mono ?_
  rintro e w13 ⟨g0, g1, ga, m1, gc, gb, m2, ge, er, rfl, hb13, hyes, hno⟩
  have HB13 := Lib.hid (HB12.out.trans (hb13.mono HB12.out.size))
  have HX13 := Lib.hid (HX12.out.keep hb13)
  clear hb13 HG HB12 HX12
  have hbv : Below w13.heap.size w13 (w13.alloc (.cells #[.int .u32 g0, .int .u32 g1, .slice ga m1 gc, .slice gb m2 ge] 52)) := (Below.refl _ _).alloc (Nat.le_refl _) _
  have hAv : Arr (w13.alloc (.cells #[.int .u32 g0, .int .u32 g1, .slice ga m1 gc, .slice gb m2 ge] 52)) w13.heap.size 52 [.int .u32 g0, .int .u32 g1, .slice ga m1 gc, .slice gb m2 ge] := arr_new _ _ _
  have HBv := Lib.hid (HB13.out.trans (hbv.mono HB13.out.size))
  have HXv := Lib.hid (HX13.out.keep hbv)
  have HAv := Lib.hid hAv
  have HYv := Lib.hid (And.intro (fun h => And.intro (hyes h).1 (And.intro (hyes h).2.1 (And.intro (hyes h).2.2.1 (And.intro (hyes h).2.2.2.1 (And.intro ((hyes h).2.2.2.2.1.below hbv (Nat.le_refl _)) ((hyes h).2.2.2.2.2.below hbv (Nat.le_refl _))))))) hno)
  clear hbv hAv hyes hno
  have c0 := HX13.out.cell (i := 0) rfl
  have c1 := HX13.out.cell (i := 1) rfl
  have c2 := HX13.out.cell (i := 2) rfl
  have c3 := HX13.out.cell (i := 3) rfl
  have c4 := HX13.out.cell (i := 4) rfl
  have c5 := HX13.out.cell (i := 5) rfl
  have c6 := HX13.out.cell (i := 6) rfl
  have c7 := HX13.out.cell (i := 7) rfl
  have c8 := HX13.out.cell (i := 8) rfl
  have c9 := HX13.out.cell (i := 9) rfl
  have c10 := HX13.out.cell (i := 10) rfl
  have c11 := HX13.out.cell (i := 11) rfl
  have c12 := HX13.out.cell (i := 12) rfl
  have c13 := HX13.out.cell (i := 13) rfl
  have c14 := HX13.out.cell (i := 14) rfl
  have c15 := HX13.out.cell (i := 15) rfl
  have c16 := HX13.out.cell (i := 16) rfl
  have c17 := HX13.out.cell (i := 17) rfl
  have c18 := HX13.out.cell (i := 18) rfl
  have c19 := HX13.out.cell (i := 19) rfl
  have c20 := HX13.out.cell (i := 20) rfl
  have c21 := HX13.out.cell (i := 21) rfl
  go_wp2_with fail
  clear c0 c1 c2 c3 c4 c5 c6 c7 c8 c9 c10 c11 c12 c13 c14 c15 c16 c17 c18 c19 c20 c21
  generalize (w13.alloc (.cells #[.int .u32 g0, .int .u32 g1, .slice ga m1 gc, .slice gb m2 ge] 52)) = w14 at HBv HXv HAv HYv ⊢
  generalize w13.heap.size = gs' at HAv ⊢
  clear HB13 HX13
  go_loopw [9, 10] (fun v ii wr => ∃ (j : Nat) (r : Bool), j ≤ sn ∧ ii = .int .i64 (j : Int) ∧ v = .bool r ∧ r = apK sg j ∧ Below w14.heap.size w14 wr) (fun _ ii _ => sn - (intOf ii).toNat)
  case atStart => exact ⟨0, true, Nat.zero_le _, rfl, rfl, rfl, Below.refl _ _⟩
  case round =>
    obtain ⟨j, r, hj, rfl, rfl, hr, hbl⟩ := hrel
    have HBL := Lib.hid hbl
    have HR := Lib.hid hr
    have HXr := Lib.hid (HXv.out.keep hbl)
    have HSr := Lib.hid ((HS.out.1.below HBv.out (Nat.le_refl _)).below hbl (Nat.le_refl _))
    clear hbl hr
    have c0 := HXr.out.cell (i := 0) rfl
    have c1 := HXr.out.cell (i := 1) rfl
    have c2 := HXr.out.cell (i := 2) rfl
    have c3 := HXr.out.cell (i := 3) rfl
    have c4 := HXr.out.cell (i := 4) rfl
    have c5 := HXr.out.cell (i := 5) rfl
    have c6 := HXr.out.cell (i := 6) rfl
    have c7 := HXr.out.cell (i := 7) rfl
    have c8 := HXr.out.cell (i := 8) rfl
    have c9 := HXr.out.cell (i := 9) rfl
    have c10 := HXr.out.cell (i := 10) rfl
    have c11 := HXr.out.cell (i := 11) rfl
    have c12 := HXr.out.cell (i := 12) rfl
    have c13 := HXr.out.cell (i := 13) rfl
    have c14 := HXr.out.cell (i := 14) rfl
    have c15 := HXr.out.cell (i := 15) rfl
    have c16 := HXr.out.cell (i := 16) rfl
    have c17 := HXr.out.cell (i := 17) rfl
    have c18 := HXr.out.cell (i := 18) rfl
    have c19 := HXr.out.cell (i := 19) rfl
    have c20 := HXr.out.cell (i := 20) rfl
    have c21 := HXr.out.cell (i := 21) rfl
    have hwl : w.heap.size < wr.heap.size := HXr.out.lt
    by_cases hjn : j < sn
    · skip
      obtain ⟨p, hp⟩ : ∃ p, sg[j]? = some p := ⟨sg[j]'(by rw [HSr.out.1]; exact hjn), by simp [HSr.out.1, hjn]⟩
      obtain ⟨p0, p1, p2, p3⟩ := HSr.out.2.1 p (List.mem_of_getElem? hp)
      obtain ⟨gg, off, hq, hlt, e0, e1⟩ := HSr.out.2.2 j p hp
      obtain ⟨xa, xb⟩ := p
      simp only at p0 p1 p2 p3 e0 e1
      have hB2 : Below w14.heap.size w14 (wr.alloc (.cells #[.int .u16 xa, .int .u16 xb] 79)) := HBL.out.alloc HBL.out.size _
      have HB2 := Lib.hid hB2
      have HAP := Lib.hid (apK_succ sg j)
      have hst : apStep sg j = (decide (xa ≤ xb) && decide (2 ≤ xa) && (decide (j = 0) || decide (((sg[j - 1]?).getD (0, 0)).2 + 1 < xa))) := by unfold apStep; rw [hp]
      have HST := Lib.hid hst
      clear hB2 hst
      subst hq
      have hj0 : (0 : Int) ≤ (j : Int) := by omega
      have hj1 : (j : Int) < (sn : Int) := by omega
      cases r with
      | false =>
        have hr : false = apK sg (j + 1) := by rw [HAP.out, ← HR.out]; rfl
        have HR2 := Lib.hid hr
        clear hr HST HAP HR
        go_wp2
        go_quiet (fail)
        go_wp2
        exact ⟨⟨j + 1, false, by omega, congrArg (Value.int .i64) (by omega), rfl, HR2.out, below_drewN HB2.out _⟩, by simp [intOf]; omega⟩
      | true =>
        have hr : apK sg (j + 1) = apStep sg j := by rw [HAP.out, ← HR.out, Bool.true_and]
        rw [HST.out] at hr
        clear HST HAP HR
        by_cases h1 : xa ≤ xb
        · by_cases h2 : 2 ≤ xa
          · by_cases hz : j = 0
            · have HR2 := Lib.hid (show true = apK sg (j + 1) by rw [hr]; simp [h1, h2, hz])
              have hjz : ((j : Int) == 0) = true := by simp [hz]
              clear hr hz
              go_wp2
              go_quiet (fail)
              go_wp2
              exact ⟨⟨j + 1, true, by omega, congrArg (Value.int .i64) (by omega), rfl, HR2.out, below_drewN HB2.out _⟩, by simp [intOf]; omega⟩
            · have hjz : ((j : Int) == 0) = false := by simp [hz]
              have hjp : 1 ≤ j := by omega
              obtain ⟨q, hq⟩ : ∃ q, sg[j - 1]? = some q := ⟨sg[j - 1]'(by rw [HSr.out.1]; omega), by simp [HSr.out.1, show j - 1 < sn by omega]⟩
              obtain ⟨q0, q1, q2, q3⟩ := HSr.out.2.1 q (List.mem_of_getElem? hq)
              obtain ⟨gg2, off2, hq2, hlt2, z0, z1⟩ := HSr.out.2.2 (j - 1) q hq
              cases hq2
              rw [hq] at hr
              obtain ⟨ya, yb⟩ := q
              simp only [Option.getD_some] at q0 q1 q2 q3 z0 z1 hr
              have hi0 : (0 : Int) ≤ (j : Int) - 1 := by omega
              have hi1 : (j : Int) - 1 < (sn : Int) := by omega
              by_cases h4 : yb + 1 < xa
              · have HR2 := Lib.hid (show true = apK sg (j + 1) by rw [hr]; simp [h1, h2, h4])
                clear hr hq hp hz
                go_wp2
                go_quiet (fail)
                go_wp2
                exact ⟨⟨j + 1, true, by omega, congrArg (Value.int .i64) (by omega), rfl, HR2.out, below_drewN HB2.out _⟩, by simp [intOf]; omega⟩
              · have HR2 := Lib.hid (show false = apK sg (j + 1) by rw [hr]; simp [h4, hz])
                have h4d : decide (yb + 1 < xa) = false := by simpa using h4
                clear hr hq hp hz
                go_wp2
                go_quiet (fail)
                go_wp2
                exact ⟨⟨j + 1, false, by omega, congrArg (Value.int .i64) (by omega), rfl, HR2.out, below_drewN HB2.out _⟩, by simp [intOf]; omega⟩
          · have HR2 := Lib.hid (show false = apK sg (j + 1) by rw [hr]; simp [h2])
            have h2d : decide (2 ≤ xa) = false := by simpa using h2
            clear hr
            go_wp2
            go_quiet (fail)
            go_wp2
            exact ⟨⟨j + 1, false, by omega, congrArg (Value.int .i64) (by omega), rfl, HR2.out, below_drewN HB2.out _⟩, by simp [intOf]; omega⟩
        · have HR2 := Lib.hid (show false = apK sg (j + 1) by rw [hr]; simp [h1])
          have h1d : decide (xa ≤ xb) = false := by simpa using h1
          clear hr
          go_wp2
          go_quiet (fail)
          go_wp2
          exact ⟨⟨j + 1, false, by omega, congrArg (Value.int .i64) (by omega), rfl, HR2.out, below_drewN HB2.out _⟩, by simp [intOf]; omega⟩
    · obtain rfl : sn = j := by omega
      have hra : r = apartF 0 sg := by rw [HR.out, show sn = sg.length from HSr.out.1.symm]; exact apK_all HSr.out.2.1
      have HRA := Lib.hid hra
      have HBr := Lib.hid (HBv.out.trans (HBL.out.mono HBv.out.size))
      have HAr := Lib.hid (HAv.out.keep HBL.out)
      have HYr := Lib.hid (And.intro (fun h => And.intro (HYv.out.1 h).1 (And.intro (HYv.out.1 h).2.1 (And.intro (HYv.out.1 h).2.2.1 (And.intro (HYv.out.1 h).2.2.2.1 (And.intro ((HYv.out.1 h).2.2.2.2.1.below HBL.out (Nat.le_refl _)) ((HYv.out.1 h).2.2.2.2.2.below HBL.out (Nat.le_refl _))))))) HYv.out.2)
      have HSD := Lib.hid (HS.out.2.below HBr.out (Nat.le_refl _))
      have hls : sd.length = sm := HS.out.2.1
      clear hra HR HBv HAv HYv HBL HXv HS
      go_upto_region 24 with fail
      go_cut [190] from 176 to 190 (fun s wx => s = .bool false ∧ Below w.heap.size w wx ∧ Arr wx w.heap.size 77 [.bool ak, .int .u32 d0, .int .u16 d1, .int .u16 d2, .bool d3, .bool d4, .bool d5, .slice da dn dk, .int .u32 i0, .int .u32 i1, .int .u16 i2, .int .u16 i3, .int .u32 i4, .slice ja jn jk, .int .u32 s0, .int .u32 s1, .slice sa sn sk, .slice sb sm sl, .int .u32 f0, .slice fa fn' fk, .int .i64 at', .int .u32 cu])
      case first =>
        cases r with
        | false =>
          obtain rfl := HYr.out.2 HRA.out.symm
          clear HYr HRA HAr
          go_wp2_with fail
          go_meet
          case rel => exact ⟨rfl, HBr.out, HXr.out⟩
        | true =>
          obtain ⟨⟨rfl, rfl⟩, e1, e2, rfl, hga, hgb⟩ := HYr.out.1 HRA.out.symm
          have hlz : sg.length = sn := HSr.out.1
          rw [hlz] at e1 hga
          rw [hls] at e2 hgb
          have HQ := Lib.hid (And.intro hga hgb)
          clear hga hgb hlz hls
          subst e1
          subst e2
          have d0 := HAr.out.cell (i := 0) rfl
          have d1 := HAr.out.cell (i := 1) rfl
          have d2 := HAr.out.cell (i := 2) rfl
          have d3 := HAr.out.cell (i := 3) rfl
          have HSM := Lib.hid (sameSack_yes g0 g1 ga sa gb sb m1 gc sk m2 ge sl sg sd wr HQ.out.1 HSr.out HQ.out.2 HSD.out (by omega) (by omega))
          clear HQ HYr HRA
          go_wp2_with fail
          refine HSM.out.mono ?_
          rintro e w15 ⟨rfl, hb15⟩
          have HB15 := Lib.hid (HBr.out.trans (hb15.mono HBr.out.size))
          have HX15 := Lib.hid (HXr.out.keep hb15)
          clear c0 c1 c2 c3 c4 c5 c6 c7 c8 c9 c10 c11 c12 c13 c14 c15 c16 c17 c18 c19 c20 c21 d0 d1 d2 d3 hb15 HSM
          go_wp2_with fail
          go_meet
          case rel => exact ⟨rfl, HB15.out, HX15.out⟩
      case rest =>
      obtain ⟨rfl, hbx, hxx⟩ := hcut
      have HB16 := Lib.hid hbx
      have HX16 := Lib.hid hxx
      clear hbx hxx HBr HXr HAr HYr HRA HSr HSD c0 c1 c2 c3 c4 c5 c6 c7 c8 c9 c10 c11 c12 c13 c14 c15 c16 c17 c18 c19 c20 c21
      have c0 := HX16.out.cell (i := 0) rfl
      have c1 := HX16.out.cell (i := 1) rfl
      have c2 := HX16.out.cell (i := 2) rfl
      have c3 := HX16.out.cell (i := 3) rfl
      have c4 := HX16.out.cell (i := 4) rfl
      have c5 := HX16.out.cell (i := 5) rfl
      have c6 := HX16.out.cell (i := 6) rfl
      have c7 := HX16.out.cell (i := 7) rfl
      have c8 := HX16.out.cell (i := 8) rfl
      have c9 := HX16.out.cell (i := 9) rfl
      have c10 := HX16.out.cell (i := 10) rfl
      have c11 := HX16.out.cell (i := 11) rfl
      have c12 := HX16.out.cell (i := 12) rfl
      have c13 := HX16.out.cell (i := 13) rfl
      have c14 := HX16.out.cell (i := 14) rfl
      have c15 := HX16.out.cell (i := 15) rfl
      have c16 := HX16.out.cell (i := 16) rfl
      have c17 := HX16.out.cell (i := 17) rfl
      have c18 := HX16.out.cell (i := 18) rfl
      have c19 := HX16.out.cell (i := 19) rfl
      have c20 := HX16.out.cell (i := 20) rfl
      have c21 := HX16.out.cell (i := 21) rfl
      have HP := Lib.hid (pputForward f0 fa fn' fk fs wc (HF.out.below HB16.out (Nat.le_refl _)) (by omega) lf0 hf0)
      go_wp2_with fail
      refine HP.out.mono ?_
      rintro e w17 ⟨pf, pg, rfl, hb17, hr17⟩
      clear HP
      clear c0 c1 c2 c3 c4 c5 c6 c7 c8 c9 c10 c11 c12 c13 c14 c15 c16 c17 c18 c19 c20 c21
      have hlf : fs.length = fn' := HF.out.1
      have hbf := backForward f0 pf _ pg fs w17 hr17.reads hr17.le HF.out.2.1 (by omega) lf0 hf0
      rw [hlf] at hbf
      have HG := Lib.hid hbf
      have HB17 := Lib.hid (HB16.out.trans (hb17.mono HB16.out.size))
      have HX17 := Lib.hid (HX16.out.keep hb17)
      clear hb17 hr17 hbf hlf HB16 HX16
      go_wp2_with fail
      refine HG.out.mono ?_
      rintro e w18 ⟨qf, qg, rfl, hb18, hg18⟩
      have HB18 := Lib.hid (HB17.out.trans (hb18.mono HB17.out.size))
      have HX18 := Lib.hid (HX17.out.keep hb18)
      clear hb18 HG HB17 HX17
      go_upto_region 27 with fail
      have hbv : Below w18.heap.size w18 (w18.alloc (.cells #[.int .u32 f0, .slice qf fn' qg] 56)) := (Below.refl _ _).alloc (Nat.le_refl _) _
      have hAv : Arr (w18.alloc (.cells #[.int .u32 f0, .slice qf fn' qg] 56)) w18.heap.size 56 [.int .u32 f0, .slice qf fn' qg] := arr_new _ _ _
      have HB19 := Lib.hid (HB18.out.trans (hbv.mono HB18.out.size))
      have HX19 := Lib.hid (HX18.out.keep hbv)
      have HA19 := Lib.hid hAv
      have HG19 := Lib.hid (And.intro (hg18.below hbv (Nat.le_refl _)) (HF.out.below HB19.out (Nat.le_refl _)))
      clear hbv hAv hg18
      generalize (w18.alloc (.cells #[.int .u32 f0, .slice qf fn' qg] 56)) = w19 at HB19 HX19 HA19 HG19 ⊢
      generalize w18.heap.size = gf' at HA19 ⊢
      clear HB18 HX18
      have c0 := HX19.out.cell (i := 0) rfl
      have c1 := HX19.out.cell (i := 1) rfl
      have c2 := HX19.out.cell (i := 2) rfl
      have c3 := HX19.out.cell (i := 3) rfl
      have c4 := HX19.out.cell (i := 4) rfl
      have c5 := HX19.out.cell (i := 5) rfl
      have c6 := HX19.out.cell (i := 6) rfl
      have c7 := HX19.out.cell (i := 7) rfl
      have c8 := HX19.out.cell (i := 8) rfl
      have c9 := HX19.out.cell (i := 9) rfl
      have c10 := HX19.out.cell (i := 10) rfl
      have c11 := HX19.out.cell (i := 11) rfl
      have c12 := HX19.out.cell (i := 12) rfl
      have c13 := HX19.out.cell (i := 13) rfl
      have c14 := HX19.out.cell (i := 14) rfl
      have c15 := HX19.out.cell (i := 15) rfl
      have c16 := HX19.out.cell (i := 16) rfl
      have c17 := HX19.out.cell (i := 17) rfl
      have c18 := HX19.out.cell (i := 18) rfl
      have c19 := HX19.out.cell (i := 19) rfl
      have c20 := HX19.out.cell (i := 20) rfl
      have c21 := HX19.out.cell (i := 21) rfl
      have d0 := HA19.out.cell (i := 0) rfl
      have d1 := HA19.out.cell (i := 1) rfl
      have HSM := Lib.hid (sameForward_yes f0 qf fa fn' qg fk fs w19 HG19.out.1 HG19.out.2 (by omega))
      clear HG19
      go_wp2_with fail
      refine HSM.out.mono ?_
      rintro e w20 ⟨rfl, hb20⟩
      have HB20 := Lib.hid (HB19.out.trans (hb20.mono HB19.out.size))
      have HX20 := Lib.hid (HX19.out.keep hb20)
      clear c0 c1 c2 c3 c4 c5 c6 c7 c8 c9 c10 c11 c12 c13 c14 c15 c16 c17 c18 c19 c20 c21 d0 d1 hb20 HSM HB19 HX19 HA19 HF
      have HP := Lib.hid (putTime12 4 at' w20)
      have c0 := HX20.out.cell (i := 0) rfl
      have c1 := HX20.out.cell (i := 1) rfl
      have c2 := HX20.out.cell (i := 2) rfl
      have c3 := HX20.out.cell (i := 3) rfl
      have c4 := HX20.out.cell (i := 4) rfl
      have c5 := HX20.out.cell (i := 5) rfl
      have c6 := HX20.out.cell (i := 6) rfl
      have c7 := HX20.out.cell (i := 7) rfl
      have c8 := HX20.out.cell (i := 8) rfl
      have c9 := HX20.out.cell (i := 9) rfl
      have c10 := HX20.out.cell (i := 10) rfl
      have c11 := HX20.out.cell (i := 11) rfl
      have c12 := HX20.out.cell (i := 12) rfl
      have c13 := HX20.out.cell (i := 13) rfl
      have c14 := HX20.out.cell (i := 14) rfl
      have c15 := HX20.out.cell (i := 15) rfl
      have c16 := HX20.out.cell (i := 16) rfl
      have c17 := HX20.out.cell (i := 17) rfl
      have c18 := HX20.out.cell (i := 18) rfl
      have c19 := HX20.out.cell (i := 19) rfl
      have c20 := HX20.out.cell (i := 20) rfl
      have c21 := HX20.out.cell (i := 21) rfl
      go_wp2_with fail
      refine HP.out.mono ?_
      rintro e w21 ⟨pt20, pu20, rfl, hbq, hrq, hlq⟩
      have HG := Lib.hid (backTime 4 at' (.inl rfl) lat hat pt20 12 pu20 w21 hrq hlq)
      have HB21 := Lib.hid (HB20.out.trans (hbq.mono HB20.out.size))
      have HX21 := Lib.hid (HX20.out.keep hbq)
      clear HP hbq hrq hlq HB20 HX20
      clear c0 c1 c2 c3 c4 c5 c6 c7 c8 c9 c10 c11 c12 c13 c14 c15 c16 c17 c18 c19 c20 c21
      go_wp2_with fail
      refine HG.out.mono ?_
      rintro e w22 ⟨rfl, hbq⟩
      have HB22 := Lib.hid (HB21.out.trans (hbq.mono HB21.out.size))
      have HX22 := Lib.hid (HX21.out.keep hbq)
      clear HG hbq HB21 HX21
      have HP := Lib.hid (putTime12 5 at' w22)
      have c0 := HX22.out.cell (i := 0) rfl
      have c1 := HX22.out.cell (i := 1) rfl
      have c2 := HX22.out.cell (i := 2) rfl
      have c3 := HX22.out.cell (i := 3) rfl
      have c4 := HX22.out.cell (i := 4) rfl
      have c5 := HX22.out.cell (i := 5) rfl
      have c6 := HX22.out.cell (i := 6) rfl
      have c7 := HX22.out.cell (i := 7) rfl
      have c8 := HX22.out.cell (i := 8) rfl
      have c9 := HX22.out.cell (i := 9) rfl
      have c10 := HX22.out.cell (i := 10) rfl
      have c11 := HX22.out.cell (i := 11) rfl
      have c12 := HX22.out.cell (i := 12) rfl
      have c13 := HX22.out.cell (i := 13) rfl
      have c14 := HX22.out.cell (i := 14) rfl
      have c15 := HX22.out.cell (i := 15) rfl
      have c16 := HX22.out.cell (i := 16) rfl
      have c17 := HX22.out.cell (i := 17) rfl
      have c18 := HX22.out.cell (i := 18) rfl
      have c19 := HX22.out.cell (i := 19) rfl
      have c20 := HX22.out.cell (i := 20) rfl
      have c21 := HX22.out.cell (i := 21) rfl
      go_wp2_with fail
      refine HP.out.mono ?_
      rintro e w23 ⟨pt22, pu22, rfl, hbq, hrq, hlq⟩
      have HG := Lib.hid (backTime 5 at' (.inr rfl) lat hat pt22 12 pu22 w23 hrq hlq)
      have HB23 := Lib.hid (HB22.out.trans (hbq.mono HB22.out.size))
      have HX23 := Lib.hid (HX22.out.keep hbq)
      clear HP hbq hrq hlq HB22 HX22
      clear c0 c1 c2 c3 c4 c5 c6 c7 c8 c9 c10 c11 c12 c13 c14 c15 c16 c17 c18 c19 c20 c21
      go_wp2_with fail
      refine HG.out.mono ?_
      rintro e w24 ⟨rfl, hbq⟩
      have HB24 := Lib.hid (HB23.out.trans (hbq.mono HB23.out.size))
      have HX24 := Lib.hid (HX23.out.keep hbq)
      clear HG hbq HB23 HX23
      have HP := Lib.hid (putCum4 cu w24 lcu hcu)
      have c0 := HX24.out.cell (i := 0) rfl
      have c1 := HX24.out.cell (i := 1) rfl
      have c2 := HX24.out.cell (i := 2) rfl
      have c3 := HX24.out.cell (i := 3) rfl
      have c4 := HX24.out.cell (i := 4) rfl
      have c5 := HX24.out.cell (i := 5) rfl
      have c6 := HX24.out.cell (i := 6) rfl
      have c7 := HX24.out.cell (i := 7) rfl
      have c8 := HX24.out.cell (i := 8) rfl
      have c9 := HX24.out.cell (i := 9) rfl
      have c10 := HX24.out.cell (i := 10) rfl
      have c11 := HX24.out.cell (i := 11) rfl
      have c12 := HX24.out.cell (i := 12) rfl
      have c13 := HX24.out.cell (i := 13) rfl
      have c14 := HX24.out.cell (i := 14) rfl
      have c15 := HX24.out.cell (i := 15) rfl
      have c16 := HX24.out.cell (i := 16) rfl
      have c17 := HX24.out.cell (i := 17) rfl
      have c18 := HX24.out.cell (i := 18) rfl
      have c19 := HX24.out.cell (i := 19) rfl
      have c20 := HX24.out.cell (i := 20) rfl
      have c21 := HX24.out.cell (i := 21) rfl
      go_wp2_with fail
      refine HP.out.mono ?_
      rintro e w25 ⟨pt24, pu24, rfl, hbq, hrq, hlq⟩
      have HG := Lib.hid (backCum cu lcu hcu pt24 4 pu24 w25 hrq hlq)
      have HB25 := Lib.hid (HB24.out.trans (hbq.mono HB24.out.size))
      have HX25 := Lib.hid (HX24.out.keep hbq)
      clear HP hbq hrq hlq HB24 HX24
      clear c0 c1 c2 c3 c4 c5 c6 c7 c8 c9 c10 c11 c12 c13 c14 c15 c16 c17 c18 c19 c20 c21
      go_wp2_with fail
      refine HG.out.mono ?_
      rintro e w26 ⟨rfl, hbq⟩
      have HB26 := Lib.hid (HB25.out.trans (hbq.mono HB25.out.size))
      have HX26 := Lib.hid (HX25.out.keep hbq)
      clear HG hbq HB25 HX25
      have c20 := HX26.out.cell (i := 20) rfl
      have c21 := HX26.out.cell (i := 21) rfl
      go_wp2_with (go_at_call 13; refine (works_any _).mono ?_; rintro e w' ⟨rfl, hb⟩)
      go_ret
      exact ⟨rfl, HB26.out.trans (hb.mono HB26.out.size)⟩

end Go.Proofs.Ytlihcckgnnnekaa
