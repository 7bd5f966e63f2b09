/-
  The walk of BodiesSizes. Written by gensizes.py.
-/
import Derived.Test.YtlihcckgnnnekaaBdCom
import Derived.Test.YtlihcckgnnnekaaBdPrs
namespace Go.Proofs.Ytlihcckgnnnekaa
open Go.RowKit
set_option linter.unusedVariables false
set_option linter.unusedSimpArgs false
set_option linter.unnecessarySimpa false

set_option maxRecDepth 100000 in
set_option maxHeartbeats 1600000 in
theorem many_any (s0 s1 : Int) (sa : Option Addr) (sn sk : Nat) (sb : Option Addr) (sm sl : Nat) (f0 : Int) (fa : Option Addr) (fn' fk : Nat) (w : World) :
    Calls Try.prog 28 #[.agg #[.int .u32 s0, .int .u32 s1, .slice sa sn sk, .slice sb sm sl], .agg #[.int .u32 f0, .slice fa fn' fk]] w fun e w' => e = .returned (.bool (decide (2048 < sn ∨ 2048 < sm ∨ 2048 < fn'))) ∧ Below w.heap.size w w' := by
  obtain ⟨w0, hw0⟩ : ∃ w0, w.alloc (.cells #[.int .u32 s0, .int .u32 s1, .slice sa sn sk, .slice sb sm sl] 52) = w0 := ⟨_, rfl⟩
  have hb0 : Below w.heap.size w w0 := by rw [← hw0]; exact (Below.refl _ _).alloc (Nat.le_refl _) _
  have hs0 : w0.heap.size = w.heap.size + 1 := by rw [← hw0]; simp
  have ha0 : Arr w0 w.heap.size 52 [.int .u32 s0, .int .u32 s1, .slice sa sn sk, .slice sb sm sl] := by rw [← hw0]; exact arr_new _ _ _
  obtain ⟨w1, hw1⟩ : ∃ w1, w0.alloc (.cells #[.int .u32 f0, .slice fa fn' fk] 56) = w1 := ⟨_, rfl⟩
  have hb1 : Below w0.heap.size w0 w1 := by rw [← hw1]; exact (Below.refl _ _).alloc (Nat.le_refl _) _
  have hk1 : Arr w1 (w.heap.size + 1) 56 [.int .u32 f0, .slice fa fn' fk] := by rw [← hw1, ← hs0]; exact arr_new _ _ _
  have ha1 := ha0.keep hb1
  have c2 := ha1.cell (i := 2) rfl
  have c3 := ha1.cell (i := 3) rfl
  have d1 := hk1.cell (i := 1) rfl
  have HB := Lib.hid (hb0.trans (hb1.mono hb0.size))
  clear hb0 hb1 ha0 ha1 hk1
  by_cases h1 : 2048 < sn
  · have g1 : (2048 : Int) < sn := by omega
    rw [decide_eq_true (by omega)]
    clear h1
    go_enter Try.func28, Try.ntmps28
    go_wp2; go_ret; exact ⟨rfl, HB.out⟩
  have g1 : ¬ (2048 : Int) < sn := by omega
  by_cases h2 : 2048 < sm
  · have g2 : (2048 : Int) < sm := by omega
    rw [decide_eq_true (by omega)]
    clear h1 h2
    go_enter Try.func28, Try.ntmps28
    go_wp2; go_ret; exact ⟨rfl, HB.out⟩
  have g2 : ¬ (2048 : Int) < sm := by omega
  by_cases h3 : 2048 < fn'
  · have g3 : (2048 : Int) < fn' := by omega
    rw [decide_eq_true (by omega)]
    clear h1 h2 h3
    go_enter Try.func28, Try.ntmps28
    go_wp2; go_ret; exact ⟨rfl, HB.out⟩
  have g3 : ¬ (2048 : Int) < fn' := by omega
  rw [decide_eq_false (by omega)]
  clear h1 h2 h3
  go_enter Try.func28, Try.ntmps28
  go_wp2; go_ret; exact ⟨rfl, HB.out⟩

/-- What the operations of the drawn region leave behind. -/
def LSa (w w1 : World) (ak : Bool) (d0 d1 d2 : Int) (d3 d4 d5 : Bool) (da : Option Addr) (dn dk : Nat) (i0 i1 i2 i3 i4 : Int) (ia : Option Addr) (in' ik : Nat) (s0 s1 : Int) (sa : Option Addr) (sn sk : Nat) (sb : Option Addr) (sm sl : Nat) (f0 : Int) (fa : Option Addr) (fn' fk : Nat) (at' cu : Int) (LD L1 L2 LS LF LT LC : Nat) (i : Nat) (v : Value) (W : World) : Prop := match i with | 0 => v = .pointer (some ⟨w.heap.size, 1, none⟩) | 1 => v = .agg #[.int .u32 d0, .int .u16 d1, .int .u16 d2, .bool d3, .bool d4, .bool d5, .slice da dn dk] | 2 => ∃ a1 c1, v = .agg #[.int .u8 0, .int .u8 (dflags d3 d4 d5), .slice a1 LD c1] | 3 => ∃ a1_25 c1_25, v = .slice a1_25 LD c1_25 | 4 => v = .int .i64 ((LD : Nat) : Int) | 5 => v = .pointer (some ⟨w.heap.size, 1, none⟩) | 6 => v = .pointer (some ⟨w.heap.size, 7, none⟩) | 7 => v = .slice da dn dk | 8 => v = .int .i64 ((dn : Nat) : Int) | 9 => v = .int .i64 (12 + (dn : Int)) | 10 => v = .bool false | 11 => v = .bool false | 12 => v = .pointer (some ⟨w.heap.size, 8, none⟩) | 13 => v = .agg #[.int .u32 i0, .int .u32 i1, .int .u16 i2, .int .u16 i3, .int .u32 i4, .slice ia in' ik] | 14 => ∃ a1 c1, v = .agg #[.int .u8 1, .int .u8 0, .slice a1 L1 c1] | 15 => ∃ a1_37 c1_37, v = .slice a1_37 L1 c1_37 | 16 => v = .int .i64 ((L1 : Nat) : Int) | 17 => v = .bool false | 18 => v = .bool false | 19 => v = .bool false | 20 => v = .pointer (some ⟨w.heap.size, 8, none⟩) | 21 => v = .agg #[.int .u32 i0, .int .u32 i1, .int .u16 i2, .int .u16 i3, .int .u32 i4, .slice ia in' ik] | 22 => ∃ a1 c1, v = .agg #[.int .u8 2, .int .u8 0, .slice a1 L2 c1] | 23 => ∃ a1_45 c1_45, v = .slice a1_45 L2 c1_45 | 24 => v = .int .i64 ((L2 : Nat) : Int) | 25 => v = .pointer (some ⟨w.heap.size, 8, none⟩) | 26 => v = .pointer (some ⟨w.heap.size, 13, none⟩) | 27 => v = .slice ia in' ik | 28 => v = .int .i64 ((in' : Nat) : Int) | 29 => v = .int .i64 ((in' : Int) + 3) | 30 => v = .int .i64 (((in' : Int) + 3) / 4) | 31 => v = .int .i64 (((in' : Int) + 3) / 4 * 4) | 32 => v = .int .i64 (20 + ((in' : Int) + 3) / 4 * 4) | 33 => v = .bool false | 34 => v = .bool false | _ => True
theorem LSa_mono {w w1 : World} {ak : Bool} {d0 d1 d2 : Int} {d3 d4 d5 : Bool} {da : Option Addr} {dn dk : Nat} {i0 i1 i2 i3 i4 : Int} {ia : Option Addr} {in' ik : Nat} {s0 s1 : Int} {sa : Option Addr} {sn sk : Nat} {sb : Option Addr} {sm sl : Nat} {f0 : Int} {fa : Option Addr} {fn' fk : Nat} {at' cu : Int} {LD L1 L2 LS LF LT LC : Nat} {W W' : World} (hb : Below W.heap.size W W') (jo : Nat) (xo : Value) (h : LSa w w1 ak d0 d1 d2 d3 d4 d5 da dn dk i0 i1 i2 i3 i4 ia in' ik s0 s1 sa sn sk sb sm sl f0 fa fn' fk at' cu LD L1 L2 LS LF LT LC jo xo W) : LSa w w1 ak d0 d1 d2 d3 d4 d5 da dn dk i0 i1 i2 i3 i4 ia in' ik s0 s1 sa sn sk sb sm sl f0 fa fn' fk at' cu LD L1 L2 LS LF LT LC jo xo W' := by
  unfold LSa at h ⊢
  split at h <;> try exact h
theorem LSa_any {w w1 : World} {ak : Bool} {d0 d1 d2 : Int} {d3 d4 d5 : Bool} {da : Option Addr} {dn dk : Nat} {i0 i1 i2 i3 i4 : Int} {ia : Option Addr} {in' ik : Nat} {s0 s1 : Int} {sa : Option Addr} {sn sk : Nat} {sb : Option Addr} {sm sl : Nat} {f0 : Int} {fa : Option Addr} {fn' fk : Nat} {at' cu : Int} {LD L1 L2 LS LF LT LC : Nat} {W W' : World} (jo : Nat) (xo : Value) (h : LSa w w1 ak d0 d1 d2 d3 d4 d5 da dn dk i0 i1 i2 i3 i4 ia in' ik s0 s1 sa sn sk sb sm sl f0 fa fn' fk at' cu LD L1 L2 LS LF LT LC jo xo W) : LSa w w1 ak d0 d1 d2 d3 d4 d5 da dn dk i0 i1 i2 i3 i4 ia in' ik s0 s1 sa sn sk sb sm sl f0 fa fn' fk at' cu LD L1 L2 LS LF LT LC jo xo W' := by
  unfold LSa at h ⊢
  split at h <;> exact h

/-- What the operations of the drawn region leave behind. -/
def LSb (w w2 : World) (ak : Bool) (d0 d1 d2 : Int) (d3 d4 d5 : Bool) (da : Option Addr) (dn dk : Nat) (i0 i1 i2 i3 i4 : Int) (ia : Option Addr) (in' ik : Nat) (s0 s1 : Int) (sa : Option Addr) (sn sk : Nat) (sb : Option Addr) (sm sl : Nat) (f0 : Int) (fa : Option Addr) (fn' fk : Nat) (at' cu : Int) (LD L1 L2 LS LF LT LC : Nat) (i : Nat) (v : Value) (W : World) : Prop := match i with | 0 => v = .pointer (some ⟨w.heap.size, 14, none⟩) | 1 => v = .agg #[.int .u32 s0, .int .u32 s1, .slice sa sn sk, .slice sb sm sl] | 2 => ∃ a1 c1, v = .agg #[.int .u8 3, .int .u8 0, .slice a1 LS c1] | 3 => ∃ a1_60 c1_60, v = .slice a1_60 LS c1_60 | 4 => v = .int .i64 ((LS : Nat) : Int) | 5 => v = .pointer (some ⟨w.heap.size, 14, none⟩) | 6 => v = .pointer (some ⟨w.heap.size, 16, none⟩) | 7 => v = .slice sa sn sk | 8 => v = .int .i64 ((sn : Nat) : Int) | 9 => v = .int .i64 (4 * (sn : Int)) | 10 => v = .int .i64 (12 + 4 * (sn : Int)) | 11 => v = .pointer (some ⟨w.heap.size, 14, none⟩) | 12 => v = .pointer (some ⟨w.heap.size, 17, none⟩) | 13 => v = .slice sb sm sl | 14 => v = .int .i64 ((sm : Nat) : Int) | 15 => v = .int .i64 (4 * (sm : Int)) | 16 => v = .int .i64 (12 + 4 * (sn : Int) + 4 * (sm : Int)) | 17 => v = .bool false | 18 => v = .bool false | 19 => v = .pointer (some ⟨w.heap.size, 18, none⟩) | 20 => v = .agg #[.int .u32 f0, .slice fa fn' fk] | 21 => ∃ a1 c1, v = .agg #[.int .u8 192, .int .u8 0, .slice a1 LF c1] | 22 => ∃ a1_79 c1_79, v = .slice a1_79 LF c1_79 | 23 => v = .int .i64 ((LF : Nat) : Int) | 24 => v = .pointer (some ⟨w.heap.size, 18, none⟩) | 25 => v = .pointer (some ⟨w.heap.size, 19, none⟩) | 26 => v = .slice fa fn' fk | 27 => v = .int .i64 ((fn' : Nat) : Int) | 28 => v = .int .i64 (4 * (fn' : Int)) | 29 => v = .int .i64 (4 + 4 * (fn' : Int)) | 30 => v = .bool false | 31 => v = .bool false | _ => True
theorem LSb_mono {w w2 : World} {ak : Bool} {d0 d1 d2 : Int} {d3 d4 d5 : Bool} {da : Option Addr} {dn dk : Nat} {i0 i1 i2 i3 i4 : Int} {ia : Option Addr} {in' ik : Nat} {s0 s1 : Int} {sa : Option Addr} {sn sk : Nat} {sb : Option Addr} {sm sl : Nat} {f0 : Int} {fa : Option Addr} {fn' fk : Nat} {at' cu : Int} {LD L1 L2 LS LF LT LC : Nat} {W W' : World} (hb : Below W.heap.size W W') (jo : Nat) (xo : Value) (h : LSb w w2 ak d0 d1 d2 d3 d4 d5 da dn dk i0 i1 i2 i3 i4 ia in' ik s0 s1 sa sn sk sb sm sl f0 fa fn' fk at' cu LD L1 L2 LS LF LT LC jo xo W) : LSb w w2 ak d0 d1 d2 d3 d4 d5 da dn dk i0 i1 i2 i3 i4 ia in' ik s0 s1 sa sn sk sb sm sl f0 fa fn' fk at' cu LD L1 L2 LS LF LT LC jo xo W' := by
  unfold LSb at h ⊢
  split at h <;> try exact h
theorem LSb_any {w w2 : World} {ak : Bool} {d0 d1 d2 : Int} {d3 d4 d5 : Bool} {da : Option Addr} {dn dk : Nat} {i0 i1 i2 i3 i4 : Int} {ia : Option Addr} {in' ik : Nat} {s0 s1 : Int} {sa : Option Addr} {sn sk : Nat} {sb : Option Addr} {sm sl : Nat} {f0 : Int} {fa : Option Addr} {fn' fk : Nat} {at' cu : Int} {LD L1 L2 LS LF LT LC : Nat} {W W' : World} (jo : Nat) (xo : Value) (h : LSb w w2 ak d0 d1 d2 d3 d4 d5 da dn dk i0 i1 i2 i3 i4 ia in' ik s0 s1 sa sn sk sb sm sl f0 fa fn' fk at' cu LD L1 L2 LS LF LT LC jo xo W) : LSb w w2 ak d0 d1 d2 d3 d4 d5 da dn dk i0 i1 i2 i3 i4 ia in' ik s0 s1 sa sn sk sb sm sl f0 fa fn' fk at' cu LD L1 L2 LS LF LT LC jo xo W' := by
  unfold LSb at h ⊢
  split at h <;> exact h

set_option maxRecDepth 100000 in
set_option maxHeartbeats 3200000 in
theorem bodiesSizes_walk (ak : Bool) (d0 d1 d2 : Int) (d3 d4 d5 : Bool) (da : Option Addr) (dn dk : Nat) (dz : List Int) (i0 i1 i2 i3 i4 : Int) (ia : Option Addr) (in' ik : Nat) (iz : List Int) (s0 s1 : Int) (sa : Option Addr) (sn sk : Nat) (sg : List (Int × Int)) (sb : Option Addr) (sm sl : Nat) (sd : List Int) (f0 : Int) (fa : Option Addr) (fn' fk : Nat) (fs : List (Int × Int)) (at' cu : Int) (w : World) (vd0 : (Lit.int .u32 d0).wf = true) (vd1 : (Lit.int .u16 d1).wf = true) (vd2 : (Lit.int .u16 d2).wf = true) (vd : IsRow .u8 w da dn dk dz) (vi0 : (Lit.int .u32 i0).wf = true) (vi1 : (Lit.int .u32 i1).wf = true) (vi2 : (Lit.int .u16 i2).wf = true) (vi3 : (Lit.int .u16 i3).wf = true) (vi4 : (Lit.int .u32 i4).wf = true) (vi : IsRow .u8 w ia in' ik iz) (vs0 : (Lit.int .u32 s0).wf = true) (vs1 : (Lit.int .u32 s1).wf = true) (vsg : Prs w sa sn sg ∧ sn ≤ sk) (vsd : Nums .u32 w sb sm sd ∧ sm ≤ sl) (vf0 : (Lit.int .u32 f0).wf = true) (vfs : Prs w fa fn' fs ∧ fn' ≤ fk) (vat : (Lit.int .i64 at').wf = true) (vcu : (Lit.int .u32 cu).wf = true) :
    Calls Try.prog 11 #[.agg #[.bool ak, .int .u32 d0, .int .u16 d1, .int .u16 d2, .bool d3, .bool d4, .bool d5, .slice da dn dk, .int .u32 i0, .int .u32 i1, .int .u16 i2, .int .u16 i3, .int .u32 i4, .slice ia in' ik, .int .u32 s0, .int .u32 s1, .slice sa sn sk, .slice sb sm sl, .int .u32 f0, .slice fa fn' fk, .int .i64 at', .int .u32 cu]] w fun e w' => e = .returned (.bool true) ∧ Below w.heap.size w w' := by
  obtain ⟨ld0, hd0⟩ : 0 ≤ d0 ∧ d0 < 4294967296 := by have := wf_u32_in vd0; omega
  obtain ⟨ld1, hd1⟩ : 0 ≤ d1 ∧ d1 < 65536 := by have := wf_u16_in vd1; omega
  obtain ⟨ld2, hd2⟩ : 0 ≤ d2 ∧ d2 < 65536 := by have := wf_u16_in vd2; omega
  obtain ⟨li0, hi0⟩ : 0 ≤ i0 ∧ i0 < 4294967296 := by have := wf_u32_in vi0; omega
  obtain ⟨li1, hi1⟩ : 0 ≤ i1 ∧ i1 < 4294967296 := by have := wf_u32_in vi1; omega
  obtain ⟨li2, hi2⟩ : 0 ≤ i2 ∧ i2 < 65536 := by have := wf_u16_in vi2; omega
  obtain ⟨li3, hi3⟩ : 0 ≤ i3 ∧ i3 < 65536 := by have := wf_u16_in vi3; omega
  obtain ⟨li4, hi4⟩ : 0 ≤ i4 ∧ i4 < 4294967296 := by have := wf_u32_in vi4; omega
  obtain ⟨ls0, hs0⟩ : 0 ≤ s0 ∧ s0 < 4294967296 := by have := wf_u32_in vs0; omega
  obtain ⟨ls1, hs1⟩ : 0 ≤ s1 ∧ s1 < 4294967296 := by have := wf_u32_in vs1; omega
  obtain ⟨lf0, hf0⟩ : 0 ≤ f0 ∧ f0 < 4294967296 := by have := wf_u32_in vf0; omega
  obtain ⟨lcu, hcu⟩ : 0 ≤ cu ∧ cu < 4294967296 := by have := wf_u32_in vcu; omega
  obtain ⟨hrd, hzd, hcd, _⟩ := vd.reads
  obtain ⟨hri, hzi, hci, _⟩ := vi.reads
  generalize dz.take dn = dz at hrd hzd
  generalize iz.take in' = iz at hri hzi
  obtain ⟨hsg, hsk⟩ := vsg
  obtain ⟨hsd, hsl⟩ := vsd
  obtain ⟨hfs, hfk⟩ := vfs
  clear vd0 vd1 vd2 vd vi0 vi1 vi2 vi3 vi4 vi vs0 vs1 vf0 vat vcu
  obtain ⟨wb, hwb⟩ : ∃ wb, w.alloc (.cells #[.bool ak, .int .u32 d0, .int .u16 d1, .int .u16 d2, .bool d3, .bool d4, .bool d5, .slice da dn dk, .int .u32 i0, .int .u32 i1, .int .u16 i2, .int .u16 i3, .int .u32 i4, .slice ia in' ik, .int .u32 s0, .int .u32 s1, .slice sa sn sk, .slice sb sm sl, .int .u32 f0, .slice fa fn' fk, .int .i64 at', .int .u32 cu] 77) = wb := ⟨_, rfl⟩
  have hbb : Below w.heap.size w wb := by rw [← hwb]; exact (Below.refl _ _).alloc (Nat.le_refl _) _
  have hXb : Arr wb w.heap.size 77 [.bool ak, .int .u32 d0, .int .u16 d1, .int .u16 d2, .bool d3, .bool d4, .bool d5, .slice da dn dk, .int .u32 i0, .int .u32 i1, .int .u16 i2, .int .u16 i3, .int .u32 i4, .slice ia in' ik, .int .u32 s0, .int .u32 s1, .slice sa sn sk, .slice sb sm sl, .int .u32 f0, .slice fa fn' fk, .int .i64 at', .int .u32 cu] := by rw [← hwb]; exact arr_new _ _ _
  have c0 := hXb.cell (i := 0) rfl
  have c1 := hXb.cell (i := 1) rfl
  have c2 := hXb.cell (i := 2) rfl
  have c3 := hXb.cell (i := 3) rfl
  have c4 := hXb.cell (i := 4) rfl
  have c5 := hXb.cell (i := 5) rfl
  have c6 := hXb.cell (i := 6) rfl
  have c7 := hXb.cell (i := 7) rfl
  have c8 := hXb.cell (i := 8) rfl
  have c9 := hXb.cell (i := 9) rfl
  have c10 := hXb.cell (i := 10) rfl
  have c11 := hXb.cell (i := 11) rfl
  have c12 := hXb.cell (i := 12) rfl
  have c13 := hXb.cell (i := 13) rfl
  have c14 := hXb.cell (i := 14) rfl
  have c15 := hXb.cell (i := 15) rfl
  have c16 := hXb.cell (i := 16) rfl
  have c17 := hXb.cell (i := 17) rfl
  have c18 := hXb.cell (i := 18) rfl
  have c19 := hXb.cell (i := 19) rfl
  have c20 := hXb.cell (i := 20) rfl
  have c21 := hXb.cell (i := 21) rfl
  have HM := Lib.hid (many_any s0 s1 sa sn sk sb sm sl f0 fa fn' fk wb)
  have H0 := Lib.hid (And.intro hbb hXb)
  clear hbb hXb
  by_cases hmany : 2048 < sn ∨ 2048 < sm ∨ 2048 < fn'
  · rw [decide_eq_true hmany] at HM
    go_enter Try.func11, Try.ntmps11
    go_wp2_with fail
    refine HM.out.mono ?_
    rintro e w1 ⟨rfl, hb1⟩
    have HB1 := Lib.hid (H0.out.1.trans (hb1.mono H0.out.1.size))
    clear hb1 HM H0 hmany
    go_wp2_with (go_at_call 13; refine (works_any _).mono ?_; rintro e w' ⟨rfl, hb⟩)
    go_ret
    exact ⟨rfl, HB1.out.trans (hb.mono HB1.out.size)⟩
  rw [decide_eq_false hmany] at HM
  obtain ⟨hsn, hsm, hfn⟩ : sn ≤ 2048 ∧ sm ≤ 2048 ∧ fn' ≤ 2048 := by omega
  clear hmany
  by_cases hdn : 8192 < dn
  · have g : (8192 : Int) < (dn : Int) := by omega
    go_enter Try.func11, Try.ntmps11
    go_wp2_with fail
    refine HM.out.mono ?_
    rintro e w1 ⟨rfl, hb1⟩
    have HB1 := Lib.hid (H0.out.1.trans (hb1.mono H0.out.1.size))
    have hx1 := H0.out.2.keep hb1
    clear c0 c1 c2 c3 c4 c5 c6 c7 c8 c9 c10 c11 c12 c13 c14 c15 c16 c17 c18 c19 c20 c21
    have c0 := hx1.cell (i := 0) rfl
    have c1 := hx1.cell (i := 1) rfl
    have c2 := hx1.cell (i := 2) rfl
    have c3 := hx1.cell (i := 3) rfl
    have c4 := hx1.cell (i := 4) rfl
    have c5 := hx1.cell (i := 5) rfl
    have c6 := hx1.cell (i := 6) rfl
    have c7 := hx1.cell (i := 7) rfl
    have c8 := hx1.cell (i := 8) rfl
    have c9 := hx1.cell (i := 9) rfl
    have c10 := hx1.cell (i := 10) rfl
    have c11 := hx1.cell (i := 11) rfl
    have c12 := hx1.cell (i := 12) rfl
    have c13 := hx1.cell (i := 13) rfl
    have c14 := hx1.cell (i := 14) rfl
    have c15 := hx1.cell (i := 15) rfl
    have c16 := hx1.cell (i := 16) rfl
    have c17 := hx1.cell (i := 17) rfl
    have c18 := hx1.cell (i := 18) rfl
    have c19 := hx1.cell (i := 19) rfl
    have c20 := hx1.cell (i := 20) rfl
    have c21 := hx1.cell (i := 21) rfl
    have HX := Lib.hid hx1
    clear hb1 HM H0 hx1
    go_wp2_with (go_at_call 13; refine (works_any _).mono ?_; rintro e w' ⟨rfl, hb⟩)
    go_ret
    exact ⟨rfl, HB1.out.trans (hb.mono HB1.out.size)⟩
  have gd : ¬ (8192 : Int) < (dn : Int) := by omega
  by_cases hin : 8192 < in'
  · have g : (8192 : Int) < (in' : Int) := by omega
    go_enter Try.func11, Try.ntmps11
    go_wp2_with fail
    refine HM.out.mono ?_
    rintro e w1 ⟨rfl, hb1⟩
    have HB1 := Lib.hid (H0.out.1.trans (hb1.mono H0.out.1.size))
    have hx1 := H0.out.2.keep hb1
    clear c0 c1 c2 c3 c4 c5 c6 c7 c8 c9 c10 c11 c12 c13 c14 c15 c16 c17 c18 c19 c20 c21
    have c0 := hx1.cell (i := 0) rfl
    have c1 := hx1.cell (i := 1) rfl
    have c2 := hx1.cell (i := 2) rfl
    have c3 := hx1.cell (i := 3) rfl
    have c4 := hx1.cell (i := 4) rfl
    have c5 := hx1.cell (i := 5) rfl
    have c6 := hx1.cell (i := 6) rfl
    have c7 := hx1.cell (i := 7) rfl
    have c8 := hx1.cell (i := 8) rfl
    have c9 := hx1.cell (i := 9) rfl
    have c10 := hx1.cell (i := 10) rfl
    have c11 := hx1.cell (i := 11) rfl
    have c12 := hx1.cell (i := 12) rfl
    have c13 := hx1.cell (i := 13) rfl
    have c14 := hx1.cell (i := 14) rfl
    have c15 := hx1.cell (i := 15) rfl
    have c16 := hx1.cell (i := 16) rfl
    have c17 := hx1.cell (i := 17) rfl
    have c18 := hx1.cell (i := 18) rfl
    have c19 := hx1.cell (i := 19) rfl
    have c20 := hx1.cell (i := 20) rfl
    have c21 := hx1.cell (i := 21) rfl
    have HX := Lib.hid hx1
    clear hb1 HM H0 hx1
    go_wp2_with (go_at_call 13; refine (works_any _).mono ?_; rintro e w' ⟨rfl, hb⟩)
    go_ret
    exact ⟨rfl, HB1.out.trans (hb.mono HB1.out.size)⟩
  have gi : ¬ (8192 : Int) < (in' : Int) := by omega
  obtain ⟨LD, hLD⟩ : ∃ LD : Nat, LD = 12 + dn := ⟨_, rfl⟩
  have HPD := Lib.hid (show ∀ W, Below w.heap.size w W → Calls Try.prog 15 #[.agg #[.int .u32 d0, .int .u16 d1, .int .u16 d2, .bool d3, .bool d4, .bool d5, .slice da dn dk]] W fun e w' => ∃ a1 c1, e = .returned (.agg #[.int .u8 0, .int .u8 (dflags d3 d4 d5), .slice a1 LD c1]) ∧ Below W.heap.size W w' from by
    intro W h
    refine (pputData d0 d1 d2 d3 d4 d5 da dn dk dz W (hrd.below h) (by omega) ld0 hd0 ld1 hd1 ld2 hd2).mono ?_
    rintro e w' ⟨a1, c1, rfl, hb, _⟩
    rw [dataB_len, hrd.1, ← hLD]
    exact ⟨a1, c1, rfl, hb⟩)
  have HLD := Lib.hid hLD
  clear hLD
  obtain ⟨L1, hL1⟩ : ∃ L1 : Nat, L1 = 16 := ⟨_, rfl⟩
  have HP1 := Lib.hid (show ∀ W, Below w.heap.size w W → Calls Try.prog 23 #[.int .u8 1, .agg #[.int .u32 i0, .int .u32 i1, .int .u16 i2, .int .u16 i3, .int .u32 i4, .slice ia in' ik]] W fun e w' => ∃ a1 c1, e = .returned (.agg #[.int .u8 1, .int .u8 0, .slice a1 L1 c1]) ∧ Below W.heap.size W w' from by
    intro W h
    refine (pputInit_no 1 (by decide) i0 i1 i2 i3 i4 ia in' ik iz W (hri.below h) (by omega) li0 hi0 li1 hi1 li2 hi2 li3 hi3 li4 hi4).mono ?_
    rintro e w' ⟨a1, c1, rfl, hb, _⟩
    rw [initH_len, ← hL1]
    exact ⟨a1, c1, rfl, hb⟩)
  have HL1 := Lib.hid hL1
  clear hL1
  obtain ⟨L2, hL2⟩ : ∃ L2 : Nat, L2 = up4 (20 + in') := ⟨_, rfl⟩
  have HP2 := Lib.hid (show ∀ W, Below w.heap.size w W → Calls Try.prog 23 #[.int .u8 2, .agg #[.int .u32 i0, .int .u32 i1, .int .u16 i2, .int .u16 i3, .int .u32 i4, .slice ia in' ik]] W fun e w' => ∃ a1 c1, e = .returned (.agg #[.int .u8 2, .int .u8 0, .slice a1 L2 c1]) ∧ Below W.heap.size W w' from by
    intro W h
    refine (pputInit_ack i0 i1 i2 i3 i4 ia in' ik iz W (hri.below h) (by omega) li0 hi0 li1 hi1 li2 hi2 li3 hi3 li4 hi4).mono ?_
    rintro e w' ⟨a1, c1, rfl, hb, _⟩
    rw [initA_len, hri.1, ← hL2]
    exact ⟨a1, c1, rfl, hb⟩)
  have HL2 := Lib.hid hL2
  clear hL2
  obtain ⟨LS, hLS⟩ : ∃ LS : Nat, LS = 12 + 4 * sn + 4 * sm := ⟨_, rfl⟩
  have HPS := Lib.hid (show ∀ W, Below w.heap.size w W → Calls Try.prog 29 #[.agg #[.int .u32 s0, .int .u32 s1, .slice sa sn sk, .slice sb sm sl]] W fun e w' => ∃ a1 c1, e = .returned (.agg #[.int .u8 3, .int .u8 0, .slice a1 LS c1]) ∧ Below W.heap.size W w' from by
    intro W h
    refine (pputSack s0 s1 sa sn sk sg sb sm sl sd W (hsg.below h (Nat.le_refl _)) (hsd.below h (Nat.le_refl _)) (by omega) (by omega) ls0 hs0 ls1 hs1).mono ?_
    rintro e w' ⟨a1, c1, rfl, hb, _⟩
    rw [sackB_len, hsg.1, hsd.1, ← hLS]
    exact ⟨a1, c1, rfl, hb⟩)
  have HLS := Lib.hid hLS
  clear hLS
  obtain ⟨LF, hLF⟩ : ∃ LF : Nat, LF = 4 + 4 * fn' := ⟨_, rfl⟩
  have HPF := Lib.hid (show ∀ W, Below w.heap.size w W → Calls Try.prog 34 #[.agg #[.int .u32 f0, .slice fa fn' fk]] W fun e w' => ∃ a1 c1, e = .returned (.agg #[.int .u8 192, .int .u8 0, .slice a1 LF c1]) ∧ Below W.heap.size W w' from by
    intro W h
    refine (pputForward f0 fa fn' fk fs W (hfs.below h (Nat.le_refl _)) (by omega) lf0 hf0).mono ?_
    rintro e w' ⟨a1, c1, rfl, hb, _⟩
    rw [fwdB_len, hfs.1, ← hLF]
    exact ⟨a1, c1, rfl, hb⟩)
  have HLF := Lib.hid hLF
  clear hLF
  obtain ⟨LT, hLT⟩ : ∃ LT : Nat, LT = 12 := ⟨_, rfl⟩
  have HPT := Lib.hid (show ∀ W, Below w.heap.size w W → Calls Try.prog 43 #[.int .u8 4, .int .i64 at'] W fun e w' => ∃ a1 c1, e = .returned (.agg #[.int .u8 4, .int .u8 0, .slice a1 LT c1]) ∧ Below W.heap.size W w' from by
    intro W h
    refine (pputTime 4 at' W).mono ?_
    rintro e w' ⟨a1, c1, rfl, hb, _⟩
    simp only [List.length_append, enc_length, Nat.reduceAdd, ← hLT]
    exact ⟨a1, c1, rfl, hb⟩)
  have HLT := Lib.hid hLT
  clear hLT
  obtain ⟨LC, hLC⟩ : ∃ LC : Nat, LC = 4 := ⟨_, rfl⟩
  have HPC := Lib.hid (show ∀ W, Below w.heap.size w W → Calls Try.prog 45 #[.int .u32 cu] W fun e w' => ∃ a1 c1, e = .returned (.agg #[.int .u8 7, .int .u8 0, .slice a1 LC c1]) ∧ Below W.heap.size W w' from by
    intro W h
    refine (pputCum cu W lcu hcu).mono ?_
    rintro e w' ⟨a1, c1, rfl, hb, _⟩
    simp only [List.length_append, enc_length, Nat.reduceAdd, ← hLC]
    exact ⟨a1, c1, rfl, hb⟩)
  have HLC := Lib.hid hLC
  clear hLC
  go_enter Try.func11, Try.ntmps11
  go_wp2_with fail
  refine HM.out.mono ?_
  rintro e w1 ⟨rfl, hb1⟩
  have HB1 := Lib.hid (H0.out.1.trans (hb1.mono H0.out.1.size))
  have hx1 := H0.out.2.keep hb1
  clear c0 c1 c2 c3 c4 c5 c6 c7 c8 c9 c10 c11 c12 c13 c14 c15 c16 c17 c18 c19 c20 c21
  have c0 := hx1.cell (i := 0) rfl
  have c1 := hx1.cell (i := 1) rfl
  have c2 := hx1.cell (i := 2) rfl
  have c3 := hx1.cell (i := 3) rfl
  have c4 := hx1.cell (i := 4) rfl
  have c5 := hx1.cell (i := 5) rfl
  have c6 := hx1.cell (i := 6) rfl
  have c7 := hx1.cell (i := 7) rfl
  have c8 := hx1.cell (i := 8) rfl
  have c9 := hx1.cell (i := 9) rfl
  have c10 := hx1.cell (i := 10) rfl
  have c11 := hx1.cell (i := 11) rfl
  have c12 := hx1.cell (i := 12) rfl
  have c13 := hx1.cell (i := 13) rfl
  have c14 := hx1.cell (i := 14) rfl
  have c15 := hx1.cell (i := 15) rfl
  have c16 := hx1.cell (i := 16) rfl
  have c17 := hx1.cell (i := 17) rfl
  have c18 := hx1.cell (i := 18) rfl
  have c19 := hx1.cell (i := 19) rfl
  have c20 := hx1.cell (i := 20) rfl
  have c21 := hx1.cell (i := 21) rfl
  have HX := Lib.hid hx1
  clear hb1 HM H0 hx1
  have HBW := HB1
  clear hrd hzd hri hzi hsg hsd hfs
  go_wp2_with fail
  clear c0 c1 c2 c3 c4 c5 c6 c7 c8 c9 c10 c11 c12 c13 c14 c15 c16 c17 c18 c19 c20 c21
  refine wp_region_any (by kernel_rfl) ?_
  refine Vals.wpAny_goodW (LSa w w1 ak d0 d1 d2 d3 d4 d5 da dn dk i0 i1 i2 i3 i4 ia in' ik s0 s1 sa sn sk sb sm sl f0 fa fn' fk at' cu LD L1 L2 LS LF LT LC) (fun _ => (fun W => Below w1.heap.size w1 W)) [some 23, some 24, some 25, some 26, some 27, some 28, some 29, some 30, some 31, some 32, some 33, some 34, some 35, some 36, some 37, some 38, some 39, some 40, some 41, some 42, some 43, some 44, some 45, some 46, some 47, some 48, some 49, some 50, some 51, some 52, some 53, some 54, some 55, some 56, some 57] 107 _ _ rfl (by kernel_rfl) (by kernel_rfl) (by decide) ?step ?fin (Below.refl _ _).drew
  case step =>
    intro i o d ho hd listed a W hls hun hcl hJ hdf hdep hfr K hK
    match i, ho, hd with
    | 0, ho, hd =>
      have ho' := ho
      simp only [List.getElem?_toArray, List.getElem?_cons_zero, Option.some.injEq] at ho hd
      subst ho hd
      have r1 : a.eval (.tmp 1) = .pointer (some ⟨w.heap.size, 0, none⟩) := hfr 1 (by decide)
      rw [Vals.eval_tmp] at r1
      refine Vals.wpOp_run ho' rfl ?_
      clear hdep hfr ho' hdf hcl
      go_simp
      exact hK _ _ (fun _ _ h => h) hJ (fun _ => rfl)
    | 1, ho, hd =>
      have ho' := ho
      simp only [List.getElem?_toArray, List.getElem?_cons_zero, List.getElem?_cons_succ, Option.some.injEq] at ho hd
      subst ho hd
      have r23 : a.eval (.tmp 23) = .pointer (some ⟨w.heap.size, 1, none⟩) := (hdep ⟨0, .data⟩ (by simp) rfl).2 23 rfl
      rw [Vals.eval_tmp] at r23
      have c0 := (HX.out.keep hJ).cell (i := 1) rfl
      have c1 := (HX.out.keep hJ).cell (i := 2) rfl
      have c2 := (HX.out.keep hJ).cell (i := 3) rfl
      have c3 := (HX.out.keep hJ).cell (i := 4) rfl
      have c4 := (HX.out.keep hJ).cell (i := 5) rfl
      have c5 := (HX.out.keep hJ).cell (i := 6) rfl
      have c6 := (HX.out.keep hJ).cell (i := 7) rfl
      refine Vals.wpOp_run ho' rfl ?_
      clear hdep hfr ho' hdf hcl
      go_simp
      exact hK _ _ (fun _ _ h => h) hJ (fun _ => rfl)
    | 2, ho, hd =>
      have ho' := ho
      simp only [List.getElem?_toArray, List.getElem?_cons_zero, List.getElem?_cons_succ, Option.some.injEq] at ho hd
      subst ho hd
      have r24 : a.eval (.tmp 24) = .agg #[.int .u32 d0, .int .u16 d1, .int .u16 d2, .bool d3, .bool d4, .bool d5, .slice da dn dk] := (hdep ⟨1, .data⟩ (by simp) rfl).2 24 rfl
      rw [Vals.eval_tmp] at r24
      refine Vals.wpOp_run ho' rfl ?_
      clear hdep hfr ho' hdf hcl
      go_simp
      refine (HPD.out W (HBW.out.trans (hJ.mono HBW.out.size))).mono ?_
      rintro e w' ⟨a1, c1, rfl, hb3⟩
      exact hK _ _ (LSa_mono hb3) (hJ.trans (hb3.mono hJ.size)) (fun _ => ⟨_, _, rfl⟩)
    | 3, ho, hd =>
      have ho' := ho
      simp only [List.getElem?_toArray, List.getElem?_cons_zero, List.getElem?_cons_succ, Option.some.injEq] at ho hd
      subst ho hd
      have g25 : ∃ a1_25 c1_25, a.eval (.tmp 25) = .agg #[.int .u8 0, .int .u8 (dflags d3 d4 d5), .slice a1_25 LD c1_25] := (hdep ⟨2, .data⟩ (by simp) rfl).2 25 rfl
      rw [Vals.eval_tmp] at g25
      obtain ⟨a1_25, c1_25, r25⟩ := g25
      refine Vals.wpOp_run ho' rfl ?_
      clear hdep hfr ho' hdf hcl
      go_simp
      exact hK _ _ (fun _ _ h => h) hJ (fun _ => ⟨_, _, rfl⟩)
    | 4, ho, hd =>
      have ho' := ho
      simp only [List.getElem?_toArray, List.getElem?_cons_zero, List.getElem?_cons_succ, Option.some.injEq] at ho hd
      subst ho hd
      have g26 : ∃ a1_26 c1_26, a.eval (.tmp 26) = .slice a1_26 LD c1_26 := (hdep ⟨3, .data⟩ (by simp) rfl).2 26 rfl
      rw [Vals.eval_tmp] at g26
      obtain ⟨a1_26, c1_26, r26⟩ := g26
      refine Vals.wpOp_run ho' rfl ?_
      clear hdep hfr ho' hdf hcl
      go_simp
      exact hK _ _ (fun _ _ h => h) hJ (fun _ => rfl)
    | 5, ho, hd =>
      have ho' := ho
      simp only [List.getElem?_toArray, List.getElem?_cons_zero, List.getElem?_cons_succ, Option.some.injEq] at ho hd
      subst ho hd
      have r1 : a.eval (.tmp 1) = .pointer (some ⟨w.heap.size, 0, none⟩) := hfr 1 (by decide)
      rw [Vals.eval_tmp] at r1
      refine Vals.wpOp_run ho' rfl ?_
      clear hdep hfr ho' hdf hcl
      go_simp
      exact hK _ _ (fun _ _ h => h) hJ (fun _ => rfl)
    | 6, ho, hd =>
      have ho' := ho
      simp only [List.getElem?_toArray, List.getElem?_cons_zero, List.getElem?_cons_succ, Option.some.injEq] at ho hd
      subst ho hd
      have r28 : a.eval (.tmp 28) = .pointer (some ⟨w.heap.size, 1, none⟩) := (hdep ⟨5, .data⟩ (by simp) rfl).2 28 rfl
      rw [Vals.eval_tmp] at r28
      refine Vals.wpOp_run ho' rfl ?_
      clear hdep hfr ho' hdf hcl
      go_simp
      exact hK _ _ (fun _ _ h => h) hJ (fun _ => rfl)
    | 7, ho, hd =>
      have ho' := ho
      simp only [List.getElem?_toArray, List.getElem?_cons_zero, List.getElem?_cons_succ, Option.some.injEq] at ho hd
      subst ho hd
      have r29 : a.eval (.tmp 29) = .pointer (some ⟨w.heap.size, 7, none⟩) := (hdep ⟨6, .data⟩ (by simp) rfl).2 29 rfl
      rw [Vals.eval_tmp] at r29
      have c0 := (HX.out.keep hJ).cell (i := 7) rfl
      refine Vals.wpOp_run ho' rfl ?_
      clear hdep hfr ho' hdf hcl
      go_simp
      exact hK _ _ (fun _ _ h => h) hJ (fun _ => rfl)
    | 8, ho, hd =>
      have ho' := ho
      simp only [List.getElem?_toArray, List.getElem?_cons_zero, List.getElem?_cons_succ, Option.some.injEq] at ho hd
      subst ho hd
      have r30 : a.eval (.tmp 30) = .slice da dn dk := (hdep ⟨7, .data⟩ (by simp) rfl).2 30 rfl
      rw [Vals.eval_tmp] at r30
      refine Vals.wpOp_run ho' rfl ?_
      clear hdep hfr ho' hdf hcl
      go_simp
      exact hK _ _ (fun _ _ h => h) hJ (fun _ => rfl)
    | 9, ho, hd =>
      have ho' := ho
      simp only [List.getElem?_toArray, List.getElem?_cons_zero, List.getElem?_cons_succ, Option.some.injEq] at ho hd
      subst ho hd
      have r31 : a.eval (.tmp 31) = .int .i64 ((dn : Nat) : Int) := (hdep ⟨8, .data⟩ (by simp) rfl).2 31 rfl
      rw [Vals.eval_tmp] at r31
      refine Vals.wpOp_run ho' rfl ?_
      clear hdep hfr ho' hdf hcl
      go_simp
      exact hK _ _ (fun _ _ h => h) hJ (fun _ => by first | rfl | (refine congrArg (Value.int .i64) ?_; first | omega | (show wrap64 _ = _; unfold wrap64; omega) | (simp [IntKind.wrap, IntKind.signed, IntKind.bits]; omega)))
    | 10, ho, hd =>
      have ho' := ho
      simp only [List.getElem?_toArray, List.getElem?_cons_zero, List.getElem?_cons_succ, Option.some.injEq] at ho hd
      subst ho hd
      have r27 : a.eval (.tmp 27) = .int .i64 ((LD : Nat) : Int) := (hdep ⟨4, .data⟩ (by simp) rfl).2 27 rfl
      rw [Vals.eval_tmp] at r27
      have r32 : a.eval (.tmp 32) = .int .i64 (12 + (dn : Int)) := (hdep ⟨9, .data⟩ (by simp) rfl).2 32 rfl
      rw [Vals.eval_tmp] at r32
      refine Vals.wpOp_run ho' rfl ?_
      clear hdep hfr ho' hdf hcl
      go_simp
      exact hK _ _ (fun _ _ h => h) hJ (fun _ => by first | rfl | (refine congrArg Value.bool ?_; simp; have := HLD.out; omega))
    | 11, ho, hd =>
      have ho' := ho
      simp only [List.getElem?_toArray, List.getElem?_cons_zero, List.getElem?_cons_succ, Option.some.injEq] at ho hd
      subst ho hd
      have r33 : a.eval (.tmp 33) = .bool false := (hdep ⟨10, .data⟩ (by simp) rfl).2 33 rfl
      rw [Vals.eval_tmp] at r33
      refine Vals.wpOp_run ho' rfl ?_
      clear hdep hfr ho' hdf hcl
      go_simp
      exact hK _ _ (fun _ _ h => h) hJ (fun _ => rfl)
    | 12, ho, hd =>
      have ho' := ho
      simp only [List.getElem?_toArray, List.getElem?_cons_zero, List.getElem?_cons_succ, Option.some.injEq] at ho hd
      subst ho hd
      have hgd : a.eval (.tmp 34) = .bool false := (hdep ⟨11, .guard⟩ (by simp) rfl).2 34 rfl
      have r1 : a.eval (.tmp 1) = .pointer (some ⟨w.heap.size, 0, none⟩) := hfr 1 (by decide)
      rw [Vals.eval_tmp] at r1
      refine Vals.wpOp_run ho' (by unfold Region.wanted; simp only []; rw [Vals.yielded_of (d := 34) rfl hgd]; rfl) ?_
      clear hdep hfr ho' hdf hgd hcl
      go_simp
      exact hK _ _ (fun _ _ h => h) hJ (fun _ => rfl)
    | 13, ho, hd =>
      have ho' := ho
      simp only [List.getElem?_toArray, List.getElem?_cons_zero, List.getElem?_cons_succ, Option.some.injEq] at ho hd
      subst ho hd
      have hgd : a.eval (.tmp 34) = .bool false := (hdep ⟨11, .guard⟩ (by simp) rfl).2 34 rfl
      have r35 : a.eval (.tmp 35) = .pointer (some ⟨w.heap.size, 8, none⟩) := (hdep ⟨12, .data⟩ (by simp) rfl).2 35 rfl
      rw [Vals.eval_tmp] at r35
      have c0 := (HX.out.keep hJ).cell (i := 8) rfl
      have c1 := (HX.out.keep hJ).cell (i := 9) rfl
      have c2 := (HX.out.keep hJ).cell (i := 10) rfl
      have c3 := (HX.out.keep hJ).cell (i := 11) rfl
      have c4 := (HX.out.keep hJ).cell (i := 12) rfl
      have c5 := (HX.out.keep hJ).cell (i := 13) rfl
      refine Vals.wpOp_run ho' (by unfold Region.wanted; simp only []; rw [Vals.yielded_of (d := 34) rfl hgd]; rfl) ?_
      clear hdep hfr ho' hdf hgd hcl
      go_simp
      exact hK _ _ (fun _ _ h => h) hJ (fun _ => rfl)
    | 14, ho, hd =>
      have ho' := ho
      simp only [List.getElem?_toArray, List.getElem?_cons_zero, List.getElem?_cons_succ, Option.some.injEq] at ho hd
      subst ho hd
      have hgd : a.eval (.tmp 34) = .bool false := (hdep ⟨11, .guard⟩ (by simp) rfl).2 34 rfl
      have r36 : a.eval (.tmp 36) = .agg #[.int .u32 i0, .int .u32 i1, .int .u16 i2, .int .u16 i3, .int .u32 i4, .slice ia in' ik] := (hdep ⟨13, .data⟩ (by simp) rfl).2 36 rfl
      rw [Vals.eval_tmp] at r36
      refine Vals.wpOp_run ho' (by unfold Region.wanted; simp only []; rw [Vals.yielded_of (d := 34) rfl hgd]; rfl) ?_
      clear hdep hfr ho' hdf hgd hcl
      go_simp
      refine (HP1.out W (HBW.out.trans (hJ.mono HBW.out.size))).mono ?_
      rintro e w' ⟨a1, c1, rfl, hb3⟩
      exact hK _ _ (LSa_mono hb3) (hJ.trans (hb3.mono hJ.size)) (fun _ => ⟨_, _, rfl⟩)
    | 15, ho, hd =>
      have ho' := ho
      simp only [List.getElem?_toArray, List.getElem?_cons_zero, List.getElem?_cons_succ, Option.some.injEq] at ho hd
      subst ho hd
      have hgd : a.eval (.tmp 34) = .bool false := (hdep ⟨11, .guard⟩ (by simp) rfl).2 34 rfl
      have g37 : ∃ a1_37 c1_37, a.eval (.tmp 37) = .agg #[.int .u8 1, .int .u8 0, .slice a1_37 L1 c1_37] := (hdep ⟨14, .data⟩ (by simp) rfl).2 37 rfl
      rw [Vals.eval_tmp] at g37
      obtain ⟨a1_37, c1_37, r37⟩ := g37
      refine Vals.wpOp_run ho' (by unfold Region.wanted; simp only []; rw [Vals.yielded_of (d := 34) rfl hgd]; rfl) ?_
      clear hdep hfr ho' hdf hgd hcl
      go_simp
      exact hK _ _ (fun _ _ h => h) hJ (fun _ => ⟨_, _, rfl⟩)
    | 16, ho, hd =>
      have ho' := ho
      simp only [List.getElem?_toArray, List.getElem?_cons_zero, List.getElem?_cons_succ, Option.some.injEq] at ho hd
      subst ho hd
      have hgd : a.eval (.tmp 34) = .bool false := (hdep ⟨11, .guard⟩ (by simp) rfl).2 34 rfl
      have g38 : ∃ a1_38 c1_38, a.eval (.tmp 38) = .slice a1_38 L1 c1_38 := (hdep ⟨15, .data⟩ (by simp) rfl).2 38 rfl
      rw [Vals.eval_tmp] at g38
      obtain ⟨a1_38, c1_38, r38⟩ := g38
      refine Vals.wpOp_run ho' (by unfold Region.wanted; simp only []; rw [Vals.yielded_of (d := 34) rfl hgd]; rfl) ?_
      clear hdep hfr ho' hdf hgd hcl
      go_simp
      exact hK _ _ (fun _ _ h => h) hJ (fun _ => rfl)
    | 17, ho, hd =>
      have ho' := ho
      simp only [List.getElem?_toArray, List.getElem?_cons_zero, List.getElem?_cons_succ, Option.some.injEq] at ho hd
      subst ho hd
      have hgd : a.eval (.tmp 34) = .bool false := (hdep ⟨11, .guard⟩ (by simp) rfl).2 34 rfl
      have r39 : a.eval (.tmp 39) = .int .i64 ((L1 : Nat) : Int) := (hdep ⟨16, .data⟩ (by simp) rfl).2 39 rfl
      rw [Vals.eval_tmp] at r39
      refine Vals.wpOp_run ho' (by unfold Region.wanted; simp only []; rw [Vals.yielded_of (d := 34) rfl hgd]; rfl) ?_
      clear hdep hfr ho' hdf hgd hcl
      go_simp
      exact hK _ _ (fun _ _ h => h) hJ (fun _ => by first | rfl | (refine congrArg Value.bool ?_; simp; have := HL1.out; omega))
    | 18, ho, hd =>
      have ho' := ho
      simp only [List.getElem?_toArray, List.getElem?_cons_zero, List.getElem?_cons_succ, Option.some.injEq] at ho hd
      subst ho hd
      have r34 : a.eval (.tmp 34) = .bool false := (hdep ⟨11, .data⟩ (by simp) rfl).2 34 rfl
      rw [Vals.eval_tmp] at r34
      have r40 : a.eval (.tmp 40) = .bool false := (hdep ⟨17, .data⟩ (by simp) rfl).2 40 rfl
      rw [Vals.eval_tmp] at r40
      refine Vals.wpOp_run ho' rfl ?_
      clear hdep hfr ho' hdf hcl
      go_simp
      exact hK _ _ (fun _ _ h => h) hJ (fun _ => rfl)
    | 19, ho, hd =>
      have ho' := ho
      simp only [List.getElem?_toArray, List.getElem?_cons_zero, List.getElem?_cons_succ, Option.some.injEq] at ho hd
      subst ho hd
      have r41 : a.eval (.tmp 41) = .bool false := (hdep ⟨18, .data⟩ (by simp) rfl).2 41 rfl
      rw [Vals.eval_tmp] at r41
      refine Vals.wpOp_run ho' rfl ?_
      clear hdep hfr ho' hdf hcl
      go_simp
      exact hK _ _ (fun _ _ h => h) hJ (fun _ => rfl)
    | 20, ho, hd =>
      have ho' := ho
      simp only [List.getElem?_toArray, List.getElem?_cons_zero, List.getElem?_cons_succ, Option.some.injEq] at ho hd
      subst ho hd
      have hgd : a.eval (.tmp 42) = .bool false := (hdep ⟨19, .guard⟩ (by simp) rfl).2 42 rfl
      have r1 : a.eval (.tmp 1) = .pointer (some ⟨w.heap.size, 0, none⟩) := hfr 1 (by decide)
      rw [Vals.eval_tmp] at r1
      refine Vals.wpOp_run ho' (by unfold Region.wanted; simp only []; rw [Vals.yielded_of (d := 42) rfl hgd]; rfl) ?_
      clear hdep hfr ho' hdf hgd hcl
      go_simp
      exact hK _ _ (fun _ _ h => h) hJ (fun _ => rfl)
    | 21, ho, hd =>
      have ho' := ho
      simp only [List.getElem?_toArray, List.getElem?_cons_zero, List.getElem?_cons_succ, Option.some.injEq] at ho hd
      subst ho hd
      have hgd : a.eval (.tmp 42) = .bool false := (hdep ⟨19, .guard⟩ (by simp) rfl).2 42 rfl
      have r43 : a.eval (.tmp 43) = .pointer (some ⟨w.heap.size, 8, none⟩) := (hdep ⟨20, .data⟩ (by simp) rfl).2 43 rfl
      rw [Vals.eval_tmp] at r43
      have c0 := (HX.out.keep hJ).cell (i := 8) rfl
      have c1 := (HX.out.keep hJ).cell (i := 9) rfl
      have c2 := (HX.out.keep hJ).cell (i := 10) rfl
      have c3 := (HX.out.keep hJ).cell (i := 11) rfl
      have c4 := (HX.out.keep hJ).cell (i := 12) rfl
      have c5 := (HX.out.keep hJ).cell (i := 13) rfl
      refine Vals.wpOp_run ho' (by unfold Region.wanted; simp only []; rw [Vals.yielded_of (d := 42) rfl hgd]; rfl) ?_
      clear hdep hfr ho' hdf hgd hcl
      go_simp
      exact hK _ _ (fun _ _ h => h) hJ (fun _ => rfl)
    | 22, ho, hd =>
      have ho' := ho
      simp only [List.getElem?_toArray, List.getElem?_cons_zero, List.getElem?_cons_succ, Option.some.injEq] at ho hd
      subst ho hd
      have hgd : a.eval (.tmp 42) = .bool false := (hdep ⟨19, .guard⟩ (by simp) rfl).2 42 rfl
      have r44 : a.eval (.tmp 44) = .agg #[.int .u32 i0, .int .u32 i1, .int .u16 i2, .int .u16 i3, .int .u32 i4, .slice ia in' ik] := (hdep ⟨21, .data⟩ (by simp) rfl).2 44 rfl
      rw [Vals.eval_tmp] at r44
      refine Vals.wpOp_run ho' (by unfold Region.wanted; simp only []; rw [Vals.yielded_of (d := 42) rfl hgd]; rfl) ?_
      clear hdep hfr ho' hdf hgd hcl
      go_simp
      refine (HP2.out W (HBW.out.trans (hJ.mono HBW.out.size))).mono ?_
      rintro e w' ⟨a1, c1, rfl, hb3⟩
      exact hK _ _ (LSa_mono hb3) (hJ.trans (hb3.mono hJ.size)) (fun _ => ⟨_, _, rfl⟩)
    | 23, ho, hd =>
      have ho' := ho
      simp only [List.getElem?_toArray, List.getElem?_cons_zero, List.getElem?_cons_succ, Option.some.injEq] at ho hd
      subst ho hd
      have hgd : a.eval (.tmp 42) = .bool false := (hdep ⟨19, .guard⟩ (by simp) rfl).2 42 rfl
      have g45 : ∃ a1_45 c1_45, a.eval (.tmp 45) = .agg #[.int .u8 2, .int .u8 0, .slice a1_45 L2 c1_45] := (hdep ⟨22, .data⟩ (by simp) rfl).2 45 rfl
      rw [Vals.eval_tmp] at g45
      obtain ⟨a1_45, c1_45, r45⟩ := g45
      refine Vals.wpOp_run ho' (by unfold Region.wanted; simp only []; rw [Vals.yielded_of (d := 42) rfl hgd]; rfl) ?_
      clear hdep hfr ho' hdf hgd hcl
      go_simp
      exact hK _ _ (fun _ _ h => h) hJ (fun _ => ⟨_, _, rfl⟩)
    | 24, ho, hd =>
      have ho' := ho
      simp only [List.getElem?_toArray, List.getElem?_cons_zero, List.getElem?_cons_succ, Option.some.injEq] at ho hd
      subst ho hd
      have hgd : a.eval (.tmp 42) = .bool false := (hdep ⟨19, .guard⟩ (by simp) rfl).2 42 rfl
      have g46 : ∃ a1_46 c1_46, a.eval (.tmp 46) = .slice a1_46 L2 c1_46 := (hdep ⟨23, .data⟩ (by simp) rfl).2 46 rfl
      rw [Vals.eval_tmp] at g46
      obtain ⟨a1_46, c1_46, r46⟩ := g46
      refine Vals.wpOp_run ho' (by unfold Region.wanted; simp only []; rw [Vals.yielded_of (d := 42) rfl hgd]; rfl) ?_
      clear hdep hfr ho' hdf hgd hcl
      go_simp
      exact hK _ _ (fun _ _ h => h) hJ (fun _ => rfl)
    | 25, ho, hd =>
      have ho' := ho
      simp only [List.getElem?_toArray, List.getElem?_cons_zero, List.getElem?_cons_succ, Option.some.injEq] at ho hd
      subst ho hd
      have hgd : a.eval (.tmp 42) = .bool false := (hdep ⟨19, .guard⟩ (by simp) rfl).2 42 rfl
      have r1 : a.eval (.tmp 1) = .pointer (some ⟨w.heap.size, 0, none⟩) := hfr 1 (by decide)
      rw [Vals.eval_tmp] at r1
      refine Vals.wpOp_run ho' (by unfold Region.wanted; simp only []; rw [Vals.yielded_of (d := 42) rfl hgd]; rfl) ?_
      clear hdep hfr ho' hdf hgd hcl
      go_simp
      exact hK _ _ (fun _ _ h => h) hJ (fun _ => rfl)
    | 26, ho, hd =>
      have ho' := ho
      simp only [List.getElem?_toArray, List.getElem?_cons_zero, List.getElem?_cons_succ, Option.some.injEq] at ho hd
      subst ho hd
      have hgd : a.eval (.tmp 42) = .bool false := (hdep ⟨19, .guard⟩ (by simp) rfl).2 42 rfl
      have r48 : a.eval (.tmp 48) = .pointer (some ⟨w.heap.size, 8, none⟩) := (hdep ⟨25, .data⟩ (by simp) rfl).2 48 rfl
      rw [Vals.eval_tmp] at r48
      refine Vals.wpOp_run ho' (by unfold Region.wanted; simp only []; rw [Vals.yielded_of (d := 42) rfl hgd]; rfl) ?_
      clear hdep hfr ho' hdf hgd hcl
      go_simp
      exact hK _ _ (fun _ _ h => h) hJ (fun _ => rfl)
    | 27, ho, hd =>
      have ho' := ho
      simp only [List.getElem?_toArray, List.getElem?_cons_zero, List.getElem?_cons_succ, Option.some.injEq] at ho hd
      subst ho hd
      have hgd : a.eval (.tmp 42) = .bool false := (hdep ⟨19, .guard⟩ (by simp) rfl).2 42 rfl
      have r49 : a.eval (.tmp 49) = .pointer (some ⟨w.heap.size, 13, none⟩) := (hdep ⟨26, .data⟩ (by simp) rfl).2 49 rfl
      rw [Vals.eval_tmp] at r49
      have c0 := (HX.out.keep hJ).cell (i := 13) rfl
      refine Vals.wpOp_run ho' (by unfold Region.wanted; simp only []; rw [Vals.yielded_of (d := 42) rfl hgd]; rfl) ?_
      clear hdep hfr ho' hdf hgd hcl
      go_simp
      exact hK _ _ (fun _ _ h => h) hJ (fun _ => rfl)
    | 28, ho, hd =>
      have ho' := ho
      simp only [List.getElem?_toArray, List.getElem?_cons_zero, List.getElem?_cons_succ, Option.some.injEq] at ho hd
      subst ho hd
      have hgd : a.eval (.tmp 42) = .bool false := (hdep ⟨19, .guard⟩ (by simp) rfl).2 42 rfl
      have r50 : a.eval (.tmp 50) = .slice ia in' ik := (hdep ⟨27, .data⟩ (by simp) rfl).2 50 rfl
      rw [Vals.eval_tmp] at r50
      refine Vals.wpOp_run ho' (by unfold Region.wanted; simp only []; rw [Vals.yielded_of (d := 42) rfl hgd]; rfl) ?_
      clear hdep hfr ho' hdf hgd hcl
      go_simp
      exact hK _ _ (fun _ _ h => h) hJ (fun _ => rfl)
    | 29, ho, hd =>
      have ho' := ho
      simp only [List.getElem?_toArray, List.getElem?_cons_zero, List.getElem?_cons_succ, Option.some.injEq] at ho hd
      subst ho hd
      have hgd : a.eval (.tmp 42) = .bool false := (hdep ⟨19, .guard⟩ (by simp) rfl).2 42 rfl
      have r51 : a.eval (.tmp 51) = .int .i64 ((in' : Nat) : Int) := (hdep ⟨28, .data⟩ (by simp) rfl).2 51 rfl
      rw [Vals.eval_tmp] at r51
      refine Vals.wpOp_run ho' (by unfold Region.wanted; simp only []; rw [Vals.yielded_of (d := 42) rfl hgd]; rfl) ?_
      clear hdep hfr ho' hdf hgd hcl
      go_simp
      exact hK _ _ (fun _ _ h => h) hJ (fun _ => by first | rfl | (refine congrArg (Value.int .i64) ?_; first | omega | (show wrap64 _ = _; unfold wrap64; omega) | (simp [IntKind.wrap, IntKind.signed, IntKind.bits]; omega)))
    | 30, ho, hd =>
      have ho' := ho
      simp only [List.getElem?_toArray, List.getElem?_cons_zero, List.getElem?_cons_succ, Option.some.injEq] at ho hd
      subst ho hd
      have hgd : a.eval (.tmp 42) = .bool false := (hdep ⟨19, .guard⟩ (by simp) rfl).2 42 rfl
      have r52 : a.eval (.tmp 52) = .int .i64 ((in' : Int) + 3) := (hdep ⟨29, .data⟩ (by simp) rfl).2 52 rfl
      rw [Vals.eval_tmp] at r52
      refine Vals.wpOp_run ho' (by unfold Region.wanted; simp only []; rw [Vals.yielded_of (d := 42) rfl hgd]; rfl) ?_
      clear hdep hfr ho' hdf hgd hcl
      go_simp
      exact hK _ _ (fun _ _ h => h) hJ (fun _ => by first | rfl | (refine congrArg (Value.int .i64) ?_; rw [Int.tdiv_eq_ediv_of_nonneg (by omega)]; first | rfl | (simp [IntKind.wrap, IntKind.signed, IntKind.bits]; omega)))
    | 31, ho, hd =>
      have ho' := ho
      simp only [List.getElem?_toArray, List.getElem?_cons_zero, List.getElem?_cons_succ, Option.some.injEq] at ho hd
      subst ho hd
      have hgd : a.eval (.tmp 42) = .bool false := (hdep ⟨19, .guard⟩ (by simp) rfl).2 42 rfl
      have r53 : a.eval (.tmp 53) = .int .i64 (((in' : Int) + 3) / 4) := (hdep ⟨30, .data⟩ (by simp) rfl).2 53 rfl
      rw [Vals.eval_tmp] at r53
      refine Vals.wpOp_run ho' (by unfold Region.wanted; simp only []; rw [Vals.yielded_of (d := 42) rfl hgd]; rfl) ?_
      clear hdep hfr ho' hdf hgd hcl
      go_simp
      exact hK _ _ (fun _ _ h => h) hJ (fun _ => by first | rfl | (refine congrArg (Value.int .i64) ?_; first | omega | (show wrap64 _ = _; unfold wrap64; omega) | (simp [IntKind.wrap, IntKind.signed, IntKind.bits]; omega)))
    | 32, ho, hd =>
      have ho' := ho
      simp only [List.getElem?_toArray, List.getElem?_cons_zero, List.getElem?_cons_succ, Option.some.injEq] at ho hd
      subst ho hd
      have hgd : a.eval (.tmp 42) = .bool false := (hdep ⟨19, .guard⟩ (by simp) rfl).2 42 rfl
      have r54 : a.eval (.tmp 54) = .int .i64 (((in' : Int) + 3) / 4 * 4) := (hdep ⟨31, .data⟩ (by simp) rfl).2 54 rfl
      rw [Vals.eval_tmp] at r54
      refine Vals.wpOp_run ho' (by unfold Region.wanted; simp only []; rw [Vals.yielded_of (d := 42) rfl hgd]; rfl) ?_
      clear hdep hfr ho' hdf hgd hcl
      go_simp
      exact hK _ _ (fun _ _ h => h) hJ (fun _ => by first | rfl | (refine congrArg (Value.int .i64) ?_; first | omega | (show wrap64 _ = _; unfold wrap64; omega) | (simp [IntKind.wrap, IntKind.signed, IntKind.bits]; omega)))
    | 33, ho, hd =>
      have ho' := ho
      simp only [List.getElem?_toArray, List.getElem?_cons_zero, List.getElem?_cons_succ, Option.some.injEq] at ho hd
      subst ho hd
      have hgd : a.eval (.tmp 42) = .bool false := (hdep ⟨19, .guard⟩ (by simp) rfl).2 42 rfl
      have r47 : a.eval (.tmp 47) = .int .i64 ((L2 : Nat) : Int) := (hdep ⟨24, .data⟩ (by simp) rfl).2 47 rfl
      rw [Vals.eval_tmp] at r47
      have r55 : a.eval (.tmp 55) = .int .i64 (20 + ((in' : Int) + 3) / 4 * 4) := (hdep ⟨32, .data⟩ (by simp) rfl).2 55 rfl
      rw [Vals.eval_tmp] at r55
      refine Vals.wpOp_run ho' (by unfold Region.wanted; simp only []; rw [Vals.yielded_of (d := 42) rfl hgd]; rfl) ?_
      clear hdep hfr ho' hdf hgd hcl
      go_simp
      have hL2 : L2 = (20 + in' + 3) / 4 * 4 := HL2.out
      exact hK _ _ (fun _ _ h => h) hJ (fun _ => by first | rfl | (refine congrArg Value.bool ?_; simp; omega))
    | 34, ho, hd =>
      have ho' := ho
      simp only [List.getElem?_toArray, List.getElem?_cons_zero, List.getElem?_cons_succ, Option.some.injEq] at ho hd
      subst ho hd
      have r42 : a.eval (.tmp 42) = .bool false := (hdep ⟨19, .data⟩ (by simp) rfl).2 42 rfl
      rw [Vals.eval_tmp] at r42
      have r56 : a.eval (.tmp 56) = .bool false := (hdep ⟨33, .data⟩ (by simp) rfl).2 56 rfl
      rw [Vals.eval_tmp] at r56
      refine Vals.wpOp_run ho' rfl ?_
      clear hdep hfr ho' hdf hcl
      go_simp
      exact hK _ _ (fun _ _ h => h) hJ (fun _ => rfl)
    | i + 35, ho, hd => simp at ho
  case fin =>
    intro listed W fq hall hJ hG
    have q0 : fq 23 = .pointer (some ⟨w.heap.size, 1, none⟩) := hG 0 23 rfl
    have q1 : fq 24 = .agg #[.int .u32 d0, .int .u16 d1, .int .u16 d2, .bool d3, .bool d4, .bool d5, .slice da dn dk] := hG 1 24 rfl
    obtain ⟨a1_25, c1_25, q2⟩ : ∃ a1_25 c1_25, fq 25 = .agg #[.int .u8 0, .int .u8 (dflags d3 d4 d5), .slice a1_25 LD c1_25] := hG 2 25 rfl
    obtain ⟨a1_26, c1_26, q3⟩ : ∃ a1_26 c1_26, fq 26 = .slice a1_26 LD c1_26 := hG 3 26 rfl
    have q4 : fq 27 = .int .i64 ((LD : Nat) : Int) := hG 4 27 rfl
    have q5 : fq 28 = .pointer (some ⟨w.heap.size, 1, none⟩) := hG 5 28 rfl
    have q6 : fq 29 = .pointer (some ⟨w.heap.size, 7, none⟩) := hG 6 29 rfl
    have q7 : fq 30 = .slice da dn dk := hG 7 30 rfl
    have q8 : fq 31 = .int .i64 ((dn : Nat) : Int) := hG 8 31 rfl
    have q9 : fq 32 = .int .i64 (12 + (dn : Int)) := hG 9 32 rfl
    have q10 : fq 33 = .bool false := hG 10 33 rfl
    have q11 : fq 34 = .bool false := hG 11 34 rfl
    have q12 : fq 35 = .pointer (some ⟨w.heap.size, 8, none⟩) := hG 12 35 rfl
    have q13 : fq 36 = .agg #[.int .u32 i0, .int .u32 i1, .int .u16 i2, .int .u16 i3, .int .u32 i4, .slice ia in' ik] := hG 13 36 rfl
    obtain ⟨a1_37, c1_37, q14⟩ : ∃ a1_37 c1_37, fq 37 = .agg #[.int .u8 1, .int .u8 0, .slice a1_37 L1 c1_37] := hG 14 37 rfl
    obtain ⟨a1_38, c1_38, q15⟩ : ∃ a1_38 c1_38, fq 38 = .slice a1_38 L1 c1_38 := hG 15 38 rfl
    have q16 : fq 39 = .int .i64 ((L1 : Nat) : Int) := hG 16 39 rfl
    have q17 : fq 40 = .bool false := hG 17 40 rfl
    have q18 : fq 41 = .bool false := hG 18 41 rfl
    have q19 : fq 42 = .bool false := hG 19 42 rfl
    have q20 : fq 43 = .pointer (some ⟨w.heap.size, 8, none⟩) := hG 20 43 rfl
    have q21 : fq 44 = .agg #[.int .u32 i0, .int .u32 i1, .int .u16 i2, .int .u16 i3, .int .u32 i4, .slice ia in' ik] := hG 21 44 rfl
    obtain ⟨a1_45, c1_45, q22⟩ : ∃ a1_45 c1_45, fq 45 = .agg #[.int .u8 2, .int .u8 0, .slice a1_45 L2 c1_45] := hG 22 45 rfl
    obtain ⟨a1_46, c1_46, q23⟩ : ∃ a1_46 c1_46, fq 46 = .slice a1_46 L2 c1_46 := hG 23 46 rfl
    have q24 : fq 47 = .int .i64 ((L2 : Nat) : Int) := hG 24 47 rfl
    have q25 : fq 48 = .pointer (some ⟨w.heap.size, 8, none⟩) := hG 25 48 rfl
    have q26 : fq 49 = .pointer (some ⟨w.heap.size, 13, none⟩) := hG 26 49 rfl
    have q27 : fq 50 = .slice ia in' ik := hG 27 50 rfl
    have q28 : fq 51 = .int .i64 ((in' : Nat) : Int) := hG 28 51 rfl
    have q29 : fq 52 = .int .i64 ((in' : Int) + 3) := hG 29 52 rfl
    have q30 : fq 53 = .int .i64 (((in' : Int) + 3) / 4) := hG 30 53 rfl
    have q31 : fq 54 = .int .i64 (((in' : Int) + 3) / 4 * 4) := hG 31 54 rfl
    have q32 : fq 55 = .int .i64 (20 + ((in' : Int) + 3) / 4 * 4) := hG 32 55 rfl
    have q33 : fq 56 = .bool false := hG 33 56 rfl
    have q34 : fq 57 = .bool false := hG 34 57 rfl
    clear hG hall
    simp only [Vals.puts, Vals.pairs, List.filterMap_cons, List.filterMap_nil, id, List.map_cons, List.map_nil, List.foldl_cons, List.foldl_nil, q0, q1, q2, q3, q4, q5, q6, q7, q8, q9, q10, q11, q12, q13, q14, q15, q16, q17, q18, q19, q20, q21, q22, q23, q24, q25, q26, q27, q28, q29, q30, q31, q32, q33, q34]
    clear q0 q1 q2 q3 q4 q5 q6 q7 q8 q9 q10 q11 q12 q13 q14 q15 q16 q17 q18 q19 q20 q21 q22 q23 q24 q25 q26 q27 q28 q29 q30 q31 q32 q33 q34
    go_frame
    have HB2 := Lib.hid (HB1.out.trans (hJ.mono HB1.out.size))
    have HX2 := Lib.hid (HX.out.keep hJ)
    generalize W = w2 at *
    clear hJ HX HBW
    have HBW := HB2
    have c0 := HX2.out.cell (i := 0) rfl
    have c1 := HX2.out.cell (i := 1) rfl
    have c2 := HX2.out.cell (i := 2) rfl
    have c3 := HX2.out.cell (i := 3) rfl
    have c4 := HX2.out.cell (i := 4) rfl
    have c5 := HX2.out.cell (i := 5) rfl
    have c6 := HX2.out.cell (i := 6) rfl
    have c7 := HX2.out.cell (i := 7) rfl
    have c8 := HX2.out.cell (i := 8) rfl
    have c9 := HX2.out.cell (i := 9) rfl
    have c10 := HX2.out.cell (i := 10) rfl
    have c11 := HX2.out.cell (i := 11) rfl
    have c12 := HX2.out.cell (i := 12) rfl
    have c13 := HX2.out.cell (i := 13) rfl
    have c14 := HX2.out.cell (i := 14) rfl
    have c15 := HX2.out.cell (i := 15) rfl
    have c16 := HX2.out.cell (i := 16) rfl
    have c17 := HX2.out.cell (i := 17) rfl
    have c18 := HX2.out.cell (i := 18) rfl
    have c19 := HX2.out.cell (i := 19) rfl
    have c20 := HX2.out.cell (i := 20) rfl
    have c21 := HX2.out.cell (i := 21) rfl
    go_wp2_with fail
    clear c0 c1 c2 c3 c4 c5 c6 c7 c8 c9 c10 c11 c12 c13 c14 c15 c16 c17 c18 c19 c20 c21
    refine wp_region_any (by kernel_rfl) ?_
    refine Vals.wpAny_goodW (LSb w w2 ak d0 d1 d2 d3 d4 d5 da dn dk i0 i1 i2 i3 i4 ia in' ik s0 s1 sa sn sk sb sm sl f0 fa fn' fk at' cu LD L1 L2 LS LF LT LC) (fun _ => (fun W => Below w2.heap.size w2 W)) [some 58, some 59, some 60, some 61, some 62, some 63, some 64, some 65, some 66, some 67, some 68, some 69, some 70, some 71, some 72, some 73, some 74, some 75, some 76, some 77, some 78, some 79, some 80, some 81, some 82, some 83, some 84, some 85, some 86, some 87, some 88, some 89] 107 _ _ rfl (by kernel_rfl) (by kernel_rfl) (by decide) ?step5 ?fin5 (Below.refl _ _).drew
    case step5 =>
      intro i o d ho hd listed a W hls hun hcl hJ hdf hdep hfr K hK
      match i, ho, hd with
      | 0, ho, hd =>
        have ho' := ho
        simp only [List.getElem?_toArray, List.getElem?_cons_zero, Option.some.injEq] at ho hd
        subst ho hd
        have r1 : a.eval (.tmp 1) = .pointer (some ⟨w.heap.size, 0, none⟩) := hfr 1 (by decide)
        rw [Vals.eval_tmp] at r1
        refine Vals.wpOp_run ho' rfl ?_
        clear hdep hfr ho' hdf hcl
        go_simp
        exact hK _ _ (fun _ _ h => h) hJ (fun _ => rfl)
      | 1, ho, hd =>
        have ho' := ho
        simp only [List.getElem?_toArray, List.getElem?_cons_zero, List.getElem?_cons_succ, Option.some.injEq] at ho hd
        subst ho hd
        have r58 : a.eval (.tmp 58) = .pointer (some ⟨w.heap.size, 14, none⟩) := (hdep ⟨0, .data⟩ (by simp) rfl).2 58 rfl
        rw [Vals.eval_tmp] at r58
        have c0 := (HX2.out.keep hJ).cell (i := 14) rfl
        have c1 := (HX2.out.keep hJ).cell (i := 15) rfl
        have c2 := (HX2.out.keep hJ).cell (i := 16) rfl
        have c3 := (HX2.out.keep hJ).cell (i := 17) rfl
        refine Vals.wpOp_run ho' rfl ?_
        clear hdep hfr ho' hdf hcl
        go_simp
        exact hK _ _ (fun _ _ h => h) hJ (fun _ => rfl)
      | 2, ho, hd =>
        have ho' := ho
        simp only [List.getElem?_toArray, List.getElem?_cons_zero, List.getElem?_cons_succ, Option.some.injEq] at ho hd
        subst ho hd
        have r59 : a.eval (.tmp 59) = .agg #[.int .u32 s0, .int .u32 s1, .slice sa sn sk, .slice sb sm sl] := (hdep ⟨1, .data⟩ (by simp) rfl).2 59 rfl
        rw [Vals.eval_tmp] at r59
        refine Vals.wpOp_run ho' rfl ?_
        clear hdep hfr ho' hdf hcl
        go_simp
        refine (HPS.out W (HBW.out.trans (hJ.mono HBW.out.size))).mono ?_
        rintro e w' ⟨a1, c1, rfl, hb3⟩
        exact hK _ _ (LSb_mono hb3) (hJ.trans (hb3.mono hJ.size)) (fun _ => ⟨_, _, rfl⟩)
      | 3, ho, hd =>
        have ho' := ho
        simp only [List.getElem?_toArray, List.getElem?_cons_zero, List.getElem?_cons_succ, Option.some.injEq] at ho hd
        subst ho hd
        have g60 : ∃ a1_60 c1_60, a.eval (.tmp 60) = .agg #[.int .u8 3, .int .u8 0, .slice a1_60 LS c1_60] := (hdep ⟨2, .data⟩ (by simp) rfl).2 60 rfl
        rw [Vals.eval_tmp] at g60
        obtain ⟨a1_60, c1_60, r60⟩ := g60
        refine Vals.wpOp_run ho' rfl ?_
        clear hdep hfr ho' hdf hcl
        go_simp
        exact hK _ _ (fun _ _ h => h) hJ (fun _ => ⟨_, _, rfl⟩)
      | 4, ho, hd =>
        have ho' := ho
        simp only [List.getElem?_toArray, List.getElem?_cons_zero, List.getElem?_cons_succ, Option.some.injEq] at ho hd
        subst ho hd
        have g61 : ∃ a1_61 c1_61, a.eval (.tmp 61) = .slice a1_61 LS c1_61 := (hdep ⟨3, .data⟩ (by simp) rfl).2 61 rfl
        rw [Vals.eval_tmp] at g61
        obtain ⟨a1_61, c1_61, r61⟩ := g61
        refine Vals.wpOp_run ho' rfl ?_
        clear hdep hfr ho' hdf hcl
        go_simp
        exact hK _ _ (fun _ _ h => h) hJ (fun _ => rfl)
      | 5, ho, hd =>
        have ho' := ho
        simp only [List.getElem?_toArray, List.getElem?_cons_zero, List.getElem?_cons_succ, Option.some.injEq] at ho hd
        subst ho hd
        have r1 : a.eval (.tmp 1) = .pointer (some ⟨w.heap.size, 0, none⟩) := hfr 1 (by decide)
        rw [Vals.eval_tmp] at r1
        refine Vals.wpOp_run ho' rfl ?_
        clear hdep hfr ho' hdf hcl
        go_simp
        exact hK _ _ (fun _ _ h => h) hJ (fun _ => rfl)
      | 6, ho, hd =>
        have ho' := ho
        simp only [List.getElem?_toArray, List.getElem?_cons_zero, List.getElem?_cons_succ, Option.some.injEq] at ho hd
        subst ho hd
        have r63 : a.eval (.tmp 63) = .pointer (some ⟨w.heap.size, 14, none⟩) := (hdep ⟨5, .data⟩ (by simp) rfl).2 63 rfl
        rw [Vals.eval_tmp] at r63
        refine Vals.wpOp_run ho' rfl ?_
        clear hdep hfr ho' hdf hcl
        go_simp
        exact hK _ _ (fun _ _ h => h) hJ (fun _ => rfl)
      | 7, ho, hd =>
        have ho' := ho
        simp only [List.getElem?_toArray, List.getElem?_cons_zero, List.getElem?_cons_succ, Option.some.injEq] at ho hd
        subst ho hd
        have r64 : a.eval (.tmp 64) = .pointer (some ⟨w.heap.size, 16, none⟩) := (hdep ⟨6, .data⟩ (by simp) rfl).2 64 rfl
        rw [Vals.eval_tmp] at r64
        have c0 := (HX2.out.keep hJ).cell (i := 16) rfl
        refine Vals.wpOp_run ho' rfl ?_
        clear hdep hfr ho' hdf hcl
        go_simp
        exact hK _ _ (fun _ _ h => h) hJ (fun _ => rfl)
      | 8, ho, hd =>
        have ho' := ho
        simp only [List.getElem?_toArray, List.getElem?_cons_zero, List.getElem?_cons_succ, Option.some.injEq] at ho hd
        subst ho hd
        have r65 : a.eval (.tmp 65) = .slice sa sn sk := (hdep ⟨7, .data⟩ (by simp) rfl).2 65 rfl
        rw [Vals.eval_tmp] at r65
        refine Vals.wpOp_run ho' rfl ?_
        clear hdep hfr ho' hdf hcl
        go_simp
        exact hK _ _ (fun _ _ h => h) hJ (fun _ => rfl)
      | 9, ho, hd =>
        have ho' := ho
        simp only [List.getElem?_toArray, List.getElem?_cons_zero, List.getElem?_cons_succ, Option.some.injEq] at ho hd
        subst ho hd
        have r66 : a.eval (.tmp 66) = .int .i64 ((sn : Nat) : Int) := (hdep ⟨8, .data⟩ (by simp) rfl).2 66 rfl
        rw [Vals.eval_tmp] at r66
        refine Vals.wpOp_run ho' rfl ?_
        clear hdep hfr ho' hdf hcl
        go_simp
        exact hK _ _ (fun _ _ h => h) hJ (fun _ => by first | rfl | (refine congrArg (Value.int .i64) ?_; first | omega | (show wrap64 _ = _; unfold wrap64; omega) | (simp [IntKind.wrap, IntKind.signed, IntKind.bits]; omega)))
      | 10, ho, hd =>
        have ho' := ho
        simp only [List.getElem?_toArray, List.getElem?_cons_zero, List.getElem?_cons_succ, Option.some.injEq] at ho hd
        subst ho hd
        have r67 : a.eval (.tmp 67) = .int .i64 (4 * (sn : Int)) := (hdep ⟨9, .data⟩ (by simp) rfl).2 67 rfl
        rw [Vals.eval_tmp] at r67
        refine Vals.wpOp_run ho' rfl ?_
        clear hdep hfr ho' hdf hcl
        go_simp
        exact hK _ _ (fun _ _ h => h) hJ (fun _ => by first | rfl | (refine congrArg (Value.int .i64) ?_; first | omega | (show wrap64 _ = _; unfold wrap64; omega) | (simp [IntKind.wrap, IntKind.signed, IntKind.bits]; omega)))
      | 11, ho, hd =>
        have ho' := ho
        simp only [List.getElem?_toArray, List.getElem?_cons_zero, List.getElem?_cons_succ, Option.some.injEq] at ho hd
        subst ho hd
        have r1 : a.eval (.tmp 1) = .pointer (some ⟨w.heap.size, 0, none⟩) := hfr 1 (by decide)
        rw [Vals.eval_tmp] at r1
        refine Vals.wpOp_run ho' rfl ?_
        clear hdep hfr ho' hdf hcl
        go_simp
        exact hK _ _ (fun _ _ h => h) hJ (fun _ => rfl)
      | 12, ho, hd =>
        have ho' := ho
        simp only [List.getElem?_toArray, List.getElem?_cons_zero, List.getElem?_cons_succ, Option.some.injEq] at ho hd
        subst ho hd
        have r69 : a.eval (.tmp 69) = .pointer (some ⟨w.heap.size, 14, none⟩) := (hdep ⟨11, .data⟩ (by simp) rfl).2 69 rfl
        rw [Vals.eval_tmp] at r69
        refine Vals.wpOp_run ho' rfl ?_
        clear hdep hfr ho' hdf hcl
        go_simp
        exact hK _ _ (fun _ _ h => h) hJ (fun _ => rfl)
      | 13, ho, hd =>
        have ho' := ho
        simp only [List.getElem?_toArray, List.getElem?_cons_zero, List.getElem?_cons_succ, Option.some.injEq] at ho hd
        subst ho hd
        have r70 : a.eval (.tmp 70) = .pointer (some ⟨w.heap.size, 17, none⟩) := (hdep ⟨12, .data⟩ (by simp) rfl).2 70 rfl
        rw [Vals.eval_tmp] at r70
        have c0 := (HX2.out.keep hJ).cell (i := 17) rfl
        refine Vals.wpOp_run ho' rfl ?_
        clear hdep hfr ho' hdf hcl
        go_simp
        exact hK _ _ (fun _ _ h => h) hJ (fun _ => rfl)
      | 14, ho, hd =>
        have ho' := ho
        simp only [List.getElem?_toArray, List.getElem?_cons_zero, List.getElem?_cons_succ, Option.some.injEq] at ho hd
        subst ho hd
        have r71 : a.eval (.tmp 71) = .slice sb sm sl := (hdep ⟨13, .data⟩ (by simp) rfl).2 71 rfl
        rw [Vals.eval_tmp] at r71
        refine Vals.wpOp_run ho' rfl ?_
        clear hdep hfr ho' hdf hcl
        go_simp
        exact hK _ _ (fun _ _ h => h) hJ (fun _ => rfl)
      | 15, ho, hd =>
        have ho' := ho
        simp only [List.getElem?_toArray, List.getElem?_cons_zero, List.getElem?_cons_succ, Option.some.injEq] at ho hd
        subst ho hd
        have r72 : a.eval (.tmp 72) = .int .i64 ((sm : Nat) : Int) := (hdep ⟨14, .data⟩ (by simp) rfl).2 72 rfl
        rw [Vals.eval_tmp] at r72
        refine Vals.wpOp_run ho' rfl ?_
        clear hdep hfr ho' hdf hcl
        go_simp
        exact hK _ _ (fun _ _ h => h) hJ (fun _ => by first | rfl | (refine congrArg (Value.int .i64) ?_; first | omega | (show wrap64 _ = _; unfold wrap64; omega) | (simp [IntKind.wrap, IntKind.signed, IntKind.bits]; omega)))
      | 16, ho, hd =>
        have ho' := ho
        simp only [List.getElem?_toArray, List.getElem?_cons_zero, List.getElem?_cons_succ, Option.some.injEq] at ho hd
        subst ho hd
        have r68 : a.eval (.tmp 68) = .int .i64 (12 + 4 * (sn : Int)) := (hdep ⟨10, .data⟩ (by simp) rfl).2 68 rfl
        rw [Vals.eval_tmp] at r68
        have r73 : a.eval (.tmp 73) = .int .i64 (4 * (sm : Int)) := (hdep ⟨15, .data⟩ (by simp) rfl).2 73 rfl
        rw [Vals.eval_tmp] at r73
        refine Vals.wpOp_run ho' rfl ?_
        clear hdep hfr ho' hdf hcl
        go_simp
        exact hK _ _ (fun _ _ h => h) hJ (fun _ => by first | rfl | (refine congrArg (Value.int .i64) ?_; first | omega | (show wrap64 _ = _; unfold wrap64; omega) | (simp [IntKind.wrap, IntKind.signed, IntKind.bits]; omega)))
      | 17, ho, hd =>
        have ho' := ho
        simp only [List.getElem?_toArray, List.getElem?_cons_zero, List.getElem?_cons_succ, Option.some.injEq] at ho hd
        subst ho hd
        have r62 : a.eval (.tmp 62) = .int .i64 ((LS : Nat) : Int) := (hdep ⟨4, .data⟩ (by simp) rfl).2 62 rfl
        rw [Vals.eval_tmp] at r62
        have r74 : a.eval (.tmp 74) = .int .i64 (12 + 4 * (sn : Int) + 4 * (sm : Int)) := (hdep ⟨16, .data⟩ (by simp) rfl).2 74 rfl
        rw [Vals.eval_tmp] at r74
        refine Vals.wpOp_run ho' rfl ?_
        clear hdep hfr ho' hdf hcl
        go_simp
        exact hK _ _ (fun _ _ h => h) hJ (fun _ => by first | rfl | (refine congrArg Value.bool ?_; simp; have := HLS.out; omega))
      | 18, ho, hd =>
        have ho' := ho
        simp only [List.getElem?_toArray, List.getElem?_cons_zero, List.getElem?_cons_succ, Option.some.injEq] at ho hd
        subst ho hd
        have r75 : a.eval (.tmp 75) = .bool false := (hdep ⟨17, .data⟩ (by simp) rfl).2 75 rfl
        rw [Vals.eval_tmp] at r75
        refine Vals.wpOp_run ho' rfl ?_
        clear hdep hfr ho' hdf hcl
        go_simp
        exact hK _ _ (fun _ _ h => h) hJ (fun _ => rfl)
      | 19, ho, hd =>
        have ho' := ho
        simp only [List.getElem?_toArray, List.getElem?_cons_zero, List.getElem?_cons_succ, Option.some.injEq] at ho hd
        subst ho hd
        have hgd : a.eval (.tmp 76) = .bool false := (hdep ⟨18, .guard⟩ (by simp) rfl).2 76 rfl
        have r1 : a.eval (.tmp 1) = .pointer (some ⟨w.heap.size, 0, none⟩) := hfr 1 (by decide)
        rw [Vals.eval_tmp] at r1
        refine Vals.wpOp_run ho' (by unfold Region.wanted; simp only []; rw [Vals.yielded_of (d := 76) rfl hgd]; rfl) ?_
        clear hdep hfr ho' hdf hgd hcl
        go_simp
        exact hK _ _ (fun _ _ h => h) hJ (fun _ => rfl)
      | 20, ho, hd =>
        have ho' := ho
        simp only [List.getElem?_toArray, List.getElem?_cons_zero, List.getElem?_cons_succ, Option.some.injEq] at ho hd
        subst ho hd
        have hgd : a.eval (.tmp 76) = .bool false := (hdep ⟨18, .guard⟩ (by simp) rfl).2 76 rfl
        have r77 : a.eval (.tmp 77) = .pointer (some ⟨w.heap.size, 18, none⟩) := (hdep ⟨19, .data⟩ (by simp) rfl).2 77 rfl
        rw [Vals.eval_tmp] at r77
        have c0 := (HX2.out.keep hJ).cell (i := 18) rfl
        have c1 := (HX2.out.keep hJ).cell (i := 19) rfl
        refine Vals.wpOp_run ho' (by unfold Region.wanted; simp only []; rw [Vals.yielded_of (d := 76) rfl hgd]; rfl) ?_
        clear hdep hfr ho' hdf hgd hcl
        go_simp
        exact hK _ _ (fun _ _ h => h) hJ (fun _ => rfl)
      | 21, ho, hd =>
        have ho' := ho
        simp only [List.getElem?_toArray, List.getElem?_cons_zero, List.getElem?_cons_succ, Option.some.injEq] at ho hd
        subst ho hd
        have hgd : a.eval (.tmp 76) = .bool false := (hdep ⟨18, .guard⟩ (by simp) rfl).2 76 rfl
        have r78 : a.eval (.tmp 78) = .agg #[.int .u32 f0, .slice fa fn' fk] := (hdep ⟨20, .data⟩ (by simp) rfl).2 78 rfl
        rw [Vals.eval_tmp] at r78
        refine Vals.wpOp_run ho' (by unfold Region.wanted; simp only []; rw [Vals.yielded_of (d := 76) rfl hgd]; rfl) ?_
        clear hdep hfr ho' hdf hgd hcl
        go_simp
        refine (HPF.out W (HBW.out.trans (hJ.mono HBW.out.size))).mono ?_
        rintro e w' ⟨a1, c1, rfl, hb3⟩
        exact hK _ _ (LSb_mono hb3) (hJ.trans (hb3.mono hJ.size)) (fun _ => ⟨_, _, rfl⟩)
      | 22, ho, hd =>
        have ho' := ho
        simp only [List.getElem?_toArray, List.getElem?_cons_zero, List.getElem?_cons_succ, Option.some.injEq] at ho hd
        subst ho hd
        have hgd : a.eval (.tmp 76) = .bool false := (hdep ⟨18, .guard⟩ (by simp) rfl).2 76 rfl
        have g79 : ∃ a1_79 c1_79, a.eval (.tmp 79) = .agg #[.int .u8 192, .int .u8 0, .slice a1_79 LF c1_79] := (hdep ⟨21, .data⟩ (by simp) rfl).2 79 rfl
        rw [Vals.eval_tmp] at g79
        obtain ⟨a1_79, c1_79, r79⟩ := g79
        refine Vals.wpOp_run ho' (by unfold Region.wanted; simp only []; rw [Vals.yielded_of (d := 76) rfl hgd]; rfl) ?_
        clear hdep hfr ho' hdf hgd hcl
        go_simp
        exact hK _ _ (fun _ _ h => h) hJ (fun _ => ⟨_, _, rfl⟩)
      | 23, ho, hd =>
        have ho' := ho
        simp only [List.getElem?_toArray, List.getElem?_cons_zero, List.getElem?_cons_succ, Option.some.injEq] at ho hd
        subst ho hd
        have hgd : a.eval (.tmp 76) = .bool false := (hdep ⟨18, .guard⟩ (by simp) rfl).2 76 rfl
        have g80 : ∃ a1_80 c1_80, a.eval (.tmp 80) = .slice a1_80 LF c1_80 := (hdep ⟨22, .data⟩ (by simp) rfl).2 80 rfl
        rw [Vals.eval_tmp] at g80
        obtain ⟨a1_80, c1_80, r80⟩ := g80
        refine Vals.wpOp_run ho' (by unfold Region.wanted; simp only []; rw [Vals.yielded_of (d := 76) rfl hgd]; rfl) ?_
        clear hdep hfr ho' hdf hgd hcl
        go_simp
        exact hK _ _ (fun _ _ h => h) hJ (fun _ => rfl)
      | 24, ho, hd =>
        have ho' := ho
        simp only [List.getElem?_toArray, List.getElem?_cons_zero, List.getElem?_cons_succ, Option.some.injEq] at ho hd
        subst ho hd
        have hgd : a.eval (.tmp 76) = .bool false := (hdep ⟨18, .guard⟩ (by simp) rfl).2 76 rfl
        have r1 : a.eval (.tmp 1) = .pointer (some ⟨w.heap.size, 0, none⟩) := hfr 1 (by decide)
        rw [Vals.eval_tmp] at r1
        refine Vals.wpOp_run ho' (by unfold Region.wanted; simp only []; rw [Vals.yielded_of (d := 76) rfl hgd]; rfl) ?_
        clear hdep hfr ho' hdf hgd hcl
        go_simp
        exact hK _ _ (fun _ _ h => h) hJ (fun _ => rfl)
      | 25, ho, hd =>
        have ho' := ho
        simp only [List.getElem?_toArray, List.getElem?_cons_zero, List.getElem?_cons_succ, Option.some.injEq] at ho hd
        subst ho hd
        have hgd : a.eval (.tmp 76) = .bool false := (hdep ⟨18, .guard⟩ (by simp) rfl).2 76 rfl
        have r82 : a.eval (.tmp 82) = .pointer (some ⟨w.heap.size, 18, none⟩) := (hdep ⟨24, .data⟩ (by simp) rfl).2 82 rfl
        rw [Vals.eval_tmp] at r82
        refine Vals.wpOp_run ho' (by unfold Region.wanted; simp only []; rw [Vals.yielded_of (d := 76) rfl hgd]; rfl) ?_
        clear hdep hfr ho' hdf hgd hcl
        go_simp
        exact hK _ _ (fun _ _ h => h) hJ (fun _ => rfl)
      | 26, ho, hd =>
        have ho' := ho
        simp only [List.getElem?_toArray, List.getElem?_cons_zero, List.getElem?_cons_succ, Option.some.injEq] at ho hd
        subst ho hd
        have hgd : a.eval (.tmp 76) = .bool false := (hdep ⟨18, .guard⟩ (by simp) rfl).2 76 rfl
        have r83 : a.eval (.tmp 83) = .pointer (some ⟨w.heap.size, 19, none⟩) := (hdep ⟨25, .data⟩ (by simp) rfl).2 83 rfl
        rw [Vals.eval_tmp] at r83
        have c0 := (HX2.out.keep hJ).cell (i := 19) rfl
        refine Vals.wpOp_run ho' (by unfold Region.wanted; simp only []; rw [Vals.yielded_of (d := 76) rfl hgd]; rfl) ?_
        clear hdep hfr ho' hdf hgd hcl
        go_simp
        exact hK _ _ (fun _ _ h => h) hJ (fun _ => rfl)
      | 27, ho, hd =>
        have ho' := ho
        simp only [List.getElem?_toArray, List.getElem?_cons_zero, List.getElem?_cons_succ, Option.some.injEq] at ho hd
        subst ho hd
        have hgd : a.eval (.tmp 76) = .bool false := (hdep ⟨18, .guard⟩ (by simp) rfl).2 76 rfl
        have r84 : a.eval (.tmp 84) = .slice fa fn' fk := (hdep ⟨26, .data⟩ (by simp) rfl).2 84 rfl
        rw [Vals.eval_tmp] at r84
        refine Vals.wpOp_run ho' (by unfold Region.wanted; simp only []; rw [Vals.yielded_of (d := 76) rfl hgd]; rfl) ?_
        clear hdep hfr ho' hdf hgd hcl
        go_simp
        exact hK _ _ (fun _ _ h => h) hJ (fun _ => rfl)
      | 28, ho, hd =>
        have ho' := ho
        simp only [List.getElem?_toArray, List.getElem?_cons_zero, List.getElem?_cons_succ, Option.some.injEq] at ho hd
        subst ho hd
        have hgd : a.eval (.tmp 76) = .bool false := (hdep ⟨18, .guard⟩ (by simp) rfl).2 76 rfl
        have r85 : a.eval (.tmp 85) = .int .i64 ((fn' : Nat) : Int) := (hdep ⟨27, .data⟩ (by simp) rfl).2 85 rfl
        rw [Vals.eval_tmp] at r85
        refine Vals.wpOp_run ho' (by unfold Region.wanted; simp only []; rw [Vals.yielded_of (d := 76) rfl hgd]; rfl) ?_
        clear hdep hfr ho' hdf hgd hcl
        go_simp
        exact hK _ _ (fun _ _ h => h) hJ (fun _ => by first | rfl | (refine congrArg (Value.int .i64) ?_; first | omega | (show wrap64 _ = _; unfold wrap64; omega) | (simp [IntKind.wrap, IntKind.signed, IntKind.bits]; omega)))
      | 29, ho, hd =>
        have ho' := ho
        simp only [List.getElem?_toArray, List.getElem?_cons_zero, List.getElem?_cons_succ, Option.some.injEq] at ho hd
        subst ho hd
        have hgd : a.eval (.tmp 76) = .bool false := (hdep ⟨18, .guard⟩ (by simp) rfl).2 76 rfl
        have r86 : a.eval (.tmp 86) = .int .i64 (4 * (fn' : Int)) := (hdep ⟨28, .data⟩ (by simp) rfl).2 86 rfl
        rw [Vals.eval_tmp] at r86
        refine Vals.wpOp_run ho' (by unfold Region.wanted; simp only []; rw [Vals.yielded_of (d := 76) rfl hgd]; rfl) ?_
        clear hdep hfr ho' hdf hgd hcl
        go_simp
        exact hK _ _ (fun _ _ h => h) hJ (fun _ => by first | rfl | (refine congrArg (Value.int .i64) ?_; first | omega | (show wrap64 _ = _; unfold wrap64; omega) | (simp [IntKind.wrap, IntKind.signed, IntKind.bits]; omega)))
      | 30, ho, hd =>
        have ho' := ho
        simp only [List.getElem?_toArray, List.getElem?_cons_zero, List.getElem?_cons_succ, Option.some.injEq] at ho hd
        subst ho hd
        have hgd : a.eval (.tmp 76) = .bool false := (hdep ⟨18, .guard⟩ (by simp) rfl).2 76 rfl
        have r81 : a.eval (.tmp 81) = .int .i64 ((LF : Nat) : Int) := (hdep ⟨23, .data⟩ (by simp) rfl).2 81 rfl
        rw [Vals.eval_tmp] at r81
        have r87 : a.eval (.tmp 87) = .int .i64 (4 + 4 * (fn' : Int)) := (hdep ⟨29, .data⟩ (by simp) rfl).2 87 rfl
        rw [Vals.eval_tmp] at r87
        refine Vals.wpOp_run ho' (by unfold Region.wanted; simp only []; rw [Vals.yielded_of (d := 76) rfl hgd]; rfl) ?_
        clear hdep hfr ho' hdf hgd hcl
        go_simp
        exact hK _ _ (fun _ _ h => h) hJ (fun _ => by first | rfl | (refine congrArg Value.bool ?_; simp; have := HLF.out; omega))
      | 31, ho, hd =>
        have ho' := ho
        simp only [List.getElem?_toArray, List.getElem?_cons_zero, List.getElem?_cons_succ, Option.some.injEq] at ho hd
        subst ho hd
        have r76 : a.eval (.tmp 76) = .bool false := (hdep ⟨18, .data⟩ (by simp) rfl).2 76 rfl
        rw [Vals.eval_tmp] at r76
        have r88 : a.eval (.tmp 88) = .bool false := (hdep ⟨30, .data⟩ (by simp) rfl).2 88 rfl
        rw [Vals.eval_tmp] at r88
        refine Vals.wpOp_run ho' rfl ?_
        clear hdep hfr ho' hdf hcl
        go_simp
        exact hK _ _ (fun _ _ h => h) hJ (fun _ => rfl)
      | i + 32, ho, hd => simp at ho
    case fin5 =>
      intro listed W fq2 hall hJ hG
      have q0 : fq2 58 = .pointer (some ⟨w.heap.size, 14, none⟩) := hG 0 58 rfl
      have q1 : fq2 59 = .agg #[.int .u32 s0, .int .u32 s1, .slice sa sn sk, .slice sb sm sl] := hG 1 59 rfl
      obtain ⟨a1_60, c1_60, q2⟩ : ∃ a1_60 c1_60, fq2 60 = .agg #[.int .u8 3, .int .u8 0, .slice a1_60 LS c1_60] := hG 2 60 rfl
      obtain ⟨a1_61, c1_61, q3⟩ : ∃ a1_61 c1_61, fq2 61 = .slice a1_61 LS c1_61 := hG 3 61 rfl
      have q4 : fq2 62 = .int .i64 ((LS : Nat) : Int) := hG 4 62 rfl
      have q5 : fq2 63 = .pointer (some ⟨w.heap.size, 14, none⟩) := hG 5 63 rfl
      have q6 : fq2 64 = .pointer (some ⟨w.heap.size, 16, none⟩) := hG 6 64 rfl
      have q7 : fq2 65 = .slice sa sn sk := hG 7 65 rfl
      have q8 : fq2 66 = .int .i64 ((sn : Nat) : Int) := hG 8 66 rfl
      have q9 : fq2 67 = .int .i64 (4 * (sn : Int)) := hG 9 67 rfl
      have q10 : fq2 68 = .int .i64 (12 + 4 * (sn : Int)) := hG 10 68 rfl
      have q11 : fq2 69 = .pointer (some ⟨w.heap.size, 14, none⟩) := hG 11 69 rfl
      have q12 : fq2 70 = .pointer (some ⟨w.heap.size, 17, none⟩) := hG 12 70 rfl
      have q13 : fq2 71 = .slice sb sm sl := hG 13 71 rfl
      have q14 : fq2 72 = .int .i64 ((sm : Nat) : Int) := hG 14 72 rfl
      have q15 : fq2 73 = .int .i64 (4 * (sm : Int)) := hG 15 73 rfl
      have q16 : fq2 74 = .int .i64 (12 + 4 * (sn : Int) + 4 * (sm : Int)) := hG 16 74 rfl
      have q17 : fq2 75 = .bool false := hG 17 75 rfl
      have q18 : fq2 76 = .bool false := hG 18 76 rfl
      have q19 : fq2 77 = .pointer (some ⟨w.heap.size, 18, none⟩) := hG 19 77 rfl
      have q20 : fq2 78 = .agg #[.int .u32 f0, .slice fa fn' fk] := hG 20 78 rfl
      obtain ⟨a1_79, c1_79, q21⟩ : ∃ a1_79 c1_79, fq2 79 = .agg #[.int .u8 192, .int .u8 0, .slice a1_79 LF c1_79] := hG 21 79 rfl
      obtain ⟨a1_80, c1_80, q22⟩ : ∃ a1_80 c1_80, fq2 80 = .slice a1_80 LF c1_80 := hG 22 80 rfl
      have q23 : fq2 81 = .int .i64 ((LF : Nat) : Int) := hG 23 81 rfl
      have q24 : fq2 82 = .pointer (some ⟨w.heap.size, 18, none⟩) := hG 24 82 rfl
      have q25 : fq2 83 = .pointer (some ⟨w.heap.size, 19, none⟩) := hG 25 83 rfl
      have q26 : fq2 84 = .slice fa fn' fk := hG 26 84 rfl
      have q27 : fq2 85 = .int .i64 ((fn' : Nat) : Int) := hG 27 85 rfl
      have q28 : fq2 86 = .int .i64 (4 * (fn' : Int)) := hG 28 86 rfl
      have q29 : fq2 87 = .int .i64 (4 + 4 * (fn' : Int)) := hG 29 87 rfl
      have q30 : fq2 88 = .bool false := hG 30 88 rfl
      have q31 : fq2 89 = .bool false := hG 31 89 rfl
      clear hG hall
      simp only [Vals.puts, Vals.pairs, List.filterMap_cons, List.filterMap_nil, id, List.map_cons, List.map_nil, List.foldl_cons, List.foldl_nil, q0, q1, q2, q3, q4, q5, q6, q7, q8, q9, q10, q11, q12, q13, q14, q15, q16, q17, q18, q19, q20, q21, q22, q23, q24, q25, q26, q27, q28, q29, q30, q31]
      clear q0 q1 q2 q3 q4 q5 q6 q7 q8 q9 q10 q11 q12 q13 q14 q15 q16 q17 q18 q19 q20 q21 q22 q23 q24 q25 q26 q27 q28 q29 q30 q31
      go_frame
      have HB3 := Lib.hid (HB2.out.trans (hJ.mono HB2.out.size))
      have HX3 := Lib.hid (HX2.out.keep hJ)
      have c0 := HX3.out.cell (i := 0) rfl
      have c1 := HX3.out.cell (i := 1) rfl
      have c2 := HX3.out.cell (i := 2) rfl
      have c3 := HX3.out.cell (i := 3) rfl
      have c4 := HX3.out.cell (i := 4) rfl
      have c5 := HX3.out.cell (i := 5) rfl
      have c6 := HX3.out.cell (i := 6) rfl
      have c7 := HX3.out.cell (i := 7) rfl
      have c8 := HX3.out.cell (i := 8) rfl
      have c9 := HX3.out.cell (i := 9) rfl
      have c10 := HX3.out.cell (i := 10) rfl
      have c11 := HX3.out.cell (i := 11) rfl
      have c12 := HX3.out.cell (i := 12) rfl
      have c13 := HX3.out.cell (i := 13) rfl
      have c14 := HX3.out.cell (i := 14) rfl
      have c15 := HX3.out.cell (i := 15) rfl
      have c16 := HX3.out.cell (i := 16) rfl
      have c17 := HX3.out.cell (i := 17) rfl
      have c18 := HX3.out.cell (i := 18) rfl
      have c19 := HX3.out.cell (i := 19) rfl
      have c20 := HX3.out.cell (i := 20) rfl
      have c21 := HX3.out.cell (i := 21) rfl
      clear hJ HX2 HBW
      have HT3 := Lib.hid (HPT.out W HB3.out)
      obtain rfl : LT = 12 := HLT.out
      obtain rfl : LC = 4 := HLC.out
      have hfld : ∀ (x y z : Value) (w : World), (Instr.field 28 (.agg #[x, y, z]) 2).run Try.prog w = .ok z w := fun x y z w => by first | rfl | (simp [go_sem]; done) | kernel_rfl
      go_wp2_with fail
      refine HT3.out.mono ?_
      rintro e w4 ⟨a4, c4', rfl, hb4⟩
      have HB4 := Lib.hid (HB3.out.trans (hb4.mono HB3.out.size))
      have HC4 := Lib.hid (HPC.out w4 HB4.out)
      have hx4 := HX3.out.keep hb4
      clear hb4 HT3 c0 c1 c2 c3 c4 c5 c6 c7 c8 c9 c10 c11 c12 c13 c14 c15 c16 c17 c18 c19 c20 c21
      have c21 := hx4.cell (i := 21) rfl
      clear hx4
      go_wp2_with fail
      refine HC4.out.mono ?_
      rintro e w5 ⟨a5, c5', rfl, hb5⟩
      have HB5 := Lib.hid (HB4.out.trans (hb5.mono HB4.out.size))
      clear hb5 HC4 c21
      go_wp2_with (go_at_call 13; refine (works_any _).mono ?_; rintro e w' ⟨rfl, hb⟩)
      go_ret
      exact ⟨rfl, HB5.out.trans (hb.mono HB5.out.size)⟩

end Go.Proofs.Ytlihcckgnnnekaa
