/-
  The walk of CookieBack. Written by genkback.py.
-/
import Derived.Test.YtcmaclaiholpfaaDoorKApi
import Derived.Test.YtcmaclaiholpfaaDoorKBack
import Derived.Test.YtcmaclaiholpfaaDoorMgA
namespace Go.Proofs.YtcmaclaiholpfaaDoor
open Go.RowKit
set_option linter.unusedVariables false
set_option linter.unusedSimpArgs false

theorem xor_ne {y v : Int} (y0 : 0 ≤ y) (y1 : y < 256) (v0 : 0 ≤ v) (v1 : v < 256) (hv : v ≠ 0) : bits .xor .u8 y v ≠ y := by
  rw [u8_xor y v y0 y1 v0 v1]
  intro h
  have h1 : y.toNat ^^^ v.toNat = y.toNat := by omega
  have h2 : y.toNat ^^^ (y.toNat ^^^ v.toNat) = v.toNat := by rw [← Nat.xor_assoc, Nat.xor_self, Nat.zero_xor]
  rw [h1, Nat.xor_self] at h2
  omega
theorem xor_in {y v : Int} (y0 : 0 ≤ y) (y1 : y < 256) (v0 : 0 ≤ v) (v1 : v < 256) : 0 ≤ bits .xor .u8 y v ∧ bits .xor .u8 y v < 256 := by
  rw [u8_xor y v y0 y1 v0 v1]
  have hlt : y.toNat ^^^ v.toNat < 256 := Nat.xor_lt_two_pow (n := 8) (by omega) (by omega)
  exact ⟨by omega, by omega⟩
/-- Where the byte lies that is turned, and where the bytes are cut. -/
theorem turnsK {ct : Int} (h : 0 ≤ ct ∧ ct ≤ 255) : ∃ i m j : Nat, i < 32 ∧ j < 64 ∧ m < 64 ∧ Hid (m = 32 + i) ∧ Hid (wrap64 ct = ct ∧ ct.tmod 32 = (i : Int) ∧ 32 + (i : Int) = (m : Int) ∧ ct.tmod 64 = (j : Int)) := by
  have e1 : ct.tmod 32 = ct % 32 := Int.tmod_eq_emod_of_nonneg h.1
  have e2 : ct.tmod 64 = ct % 64 := Int.tmod_eq_emod_of_nonneg h.1
  refine ⟨(ct % 32).toNat, 32 + (ct % 32).toNat, (ct % 64).toNat, by omega, by omega, by omega, Lib.hid rfl, Lib.hid ⟨by unfold wrap64; omega, by omega, by omega, by omega⟩⟩
/-- A turned byte of the last 32: no cookie. -/
theorem readK_xor {zs : List Int} {k : KV} {i : Nat} {v : Int} (hi : i < 32) (v0 : 0 ≤ v) (v1 : v < 256) (hv : v ≠ 0) :
    (readK zs ((writeK zs k).set (32 + i) (bits .xor .u8 ((writeK zs k)[32 + i]?.getD 0) v))).2 = 10 := by
  have hx : ∃ x, (writeK zs k)[32 + i]? = some x := by
    rw [List.getElem?_eq_getElem (by rw [writeK_len]; omega)]
    exact ⟨_, rfl⟩
  obtain ⟨x, hx⟩ := hx
  have hb := (writeK_byt zs k).getD (32 + i)
  rw [hx] at hb ⊢
  obtain ⟨h1, h2, h3⟩ := writeK_set (key := zs) (k := k) hi hx (xor_ne hb.1 hb.2 v0 v1 hv)
  exact readK_turned h1 h2 h3

/-- What the operations of the drawn region leave behind. -/
def KBq (w wE : World) (p : Option Addr) (len cap : Nat) (zs : List Int) (k : KV) (born own peer otsn ptsn rwnd out inn : Int) (i : Nat) (v : Value) (W : World) : Prop := match i with | 0 => v = .slice p len cap | 1 => ∃ a1 c1, v = .slice a1 len c1 ∧ Reads W a1 len zs ∧ len ≤ c1 | 2 => v = .agg #[.int .i64 born, .int .u32 own, .int .u32 peer, .int .u32 otsn, .int .u32 ptsn, .int .u32 rwnd, .int .u16 out, .int .u16 inn] | 3 => ∃ aw cw, v = .slice aw 64 cw ∧ Reads W aw 64 (writeK zs k) ∧ 64 ≤ cw ∧ cw ≤ maxLen | 4 => ∃ aw_35 cw_35, v = .slice aw_35 64 cw_35 ∧ Reads W aw_35 64 (writeK zs k) ∧ 64 ≤ cw_35 ∧ cw_35 ≤ maxLen | _ => True
theorem KBq_mono {w wE : World} {p : Option Addr} {len cap : Nat} {zs : List Int} {k : KV} {born own peer otsn ptsn rwnd out inn : Int} {W W' : World} (hb : Below W.heap.size W W') (jo : Nat) (xo : Value) (h : KBq w wE p len cap zs k born own peer otsn ptsn rwnd out inn jo xo W) : KBq w wE p len cap zs k born own peer otsn ptsn rwnd out inn jo xo W' := by
  unfold KBq at h ⊢
  split at h <;> try exact h
  · obtain ⟨a1, c1, e0, h0_0, h0_1⟩ := h
    exact ⟨a1, c1, e0, h0_0.below hb, h0_1⟩
  · obtain ⟨aw, cw, e0, h0_0, h0_1, h0_2⟩ := h
    exact ⟨aw, cw, e0, h0_0.below hb, h0_1, h0_2⟩
  · obtain ⟨aw_35, cw_35, e0, h0_0, h0_1, h0_2⟩ := h
    exact ⟨aw_35, cw_35, e0, h0_0.below hb, h0_1, h0_2⟩

set_option maxRecDepth 10000 in
set_option maxHeartbeats 3200000 in
theorem cookieBack_of (KW : KWriteOk) (KR : KReadOk) (WK : KWorks) (p : Option Addr) (len cap : Nat) (z : List Int) (k : KV) (ct cb : Int) (q : Option Addr) (len2 cap2 : Nat) (z2 : List Int) (w : World)
    (v0 : IsRow .u8 w p len cap z) (hok : k.ok) (va : (Lit.int .u8 ct).wf = true) (vb : (Lit.int .u8 cb).wf = true) (v1 : IsRow .u8 w q len2 cap2 z2) (ht : Tab w) :
    Calls Tryd.prog 5 #[.slice p len cap, k.val, .int .u8 ct, .int .u8 cb, .slice q len2 cap2] w fun e w' => e = .returned (.bool true) ∧ Below w.heap.size w w' := by
  obtain ⟨hr, hbyt, hcap, hmax⟩ := v0.reads
  obtain ⟨hr2, hbyt2, hcap2, hmax2⟩ := v1.reads
  have ct0 := wf_u8_in va
  have cb0 := wf_u8_in vb
  clear v0 v1 va vb
  generalize z.take len = zs at hr hbyt
  generalize z2.take len2 = ys at hr2 hbyt2
  obtain ⟨born, own, peer, otsn, ptsn, rwnd, out, inn⟩ := k
  obtain ⟨k, hk⟩ : ∃ k : KV, k = ⟨born, own, peer, otsn, ptsn, rwnd, out, inn⟩ := ⟨_, rfl⟩
  have hval : k.val = (.agg #[.int .i64 born, .int .u32 own, .int .u32 peer, .int .u32 otsn, .int .u32 ptsn, .int .u32 rwnd, .int .u16 out, .int .u16 inn]) := by rw [hk]; rfl
  have hoo : 0 ≤ out ∧ out < 65536 := hok.out
  have hii : 0 ≤ inn ∧ inn < 65536 := hok.inn
  rw [← hk] at hok
  rw [← hk, hval]
  obtain ⟨w0, hw0⟩ : ∃ w0, w0 = w.alloc (.cells #[.int .i64 born, .int .u32 own, .int .u32 peer, .int .u32 otsn, .int .u32 ptsn, .int .u32 rwnd, .int .u16 out, .int .u16 inn] 26) := ⟨_, rfl⟩
  have hb0 : Below w.heap.size w w0 := by rw [hw0]; exact (Below.refl _ _).alloc (Nat.le_refl _) _
  have hA0 : Arr w0 w.heap.size 26 [.int .i64 born, .int .u32 own, .int .u32 peer, .int .u32 otsn, .int .u32 ptsn, .int .u32 rwnd, .int .u16 out, .int .u16 inn] := by rw [hw0]; exact arr_new _ _ _
  have HR := Lib.hid (And.intro (hr.below hb0) (And.intro hbyt (And.intro hcap hok)))
  have HR2 := Lib.hid (And.intro (hr2.below hb0) (And.intro hbyt2 (And.intro hcap2 hmax2)))
  have HT := Lib.hid (ht.below hb0 ht.lt)
  have HB0 := Lib.hid hb0
  have HX := Lib.hid hA0
  have HKV := Lib.hid (And.intro hk hval)
  have HC0 := Lib.hid (And.intro ct0 cb0)
  clear hr hbyt hcap hr2 hbyt2 hcap2 hok ht hb0 hA0 hk hval ct0 cb0
  unfold maxLen at hmax hmax2
  by_cases hlong : 4096 < len
  · have hg : (4096 : Int) < len := by omega
    go_enter Tryd.func5, Tryd.ntmps5
    go_wp2_with fail
    rw [← hw0]
    refine (WK w0 HT.out).mono ?_
    rintro e w' ⟨rfl, hb⟩
    have HW := Lib.hid (HB0.out.trans (hb.mono HB0.out.size))
    clear hb
    go_wp2
    go_ret
    exact ⟨rfl, HW.out⟩
  by_cases hlong2 : 4096 < len2
  · have hg : ¬ (4096 : Int) < len := by omega
    have hg2 : (4096 : Int) < len2 := by omega
    go_enter Tryd.func5, Tryd.ntmps5
    go_wp2_with fail
    rw [← hw0]
    refine (WK w0 HT.out).mono ?_
    rintro e w' ⟨rfl, hb⟩
    have HW := Lib.hid (HB0.out.trans (hb.mono HB0.out.size))
    clear hb
    go_wp2
    go_ret
    exact ⟨rfl, HW.out⟩
  have hg : ¬ (4096 : Int) < len := by omega
  have hg2 : ¬ (4096 : Int) < len2 := by omega
  have htw := fun W (hJ : Below w0.heap.size w0 W) => twinK_any p len cap zs W (HR.out.1.below hJ) (by omega)
  have HTW := Lib.hid htw
  have hkw := fun (a1 : Option Addr) (c1 : Nat) W (hJ : Below w0.heap.size w0 W) (h1 : Reads W a1 len zs) (h2 : len ≤ c1) => KW a1 len c1 zs k W h1 HR.out.2.1 (by omega) h2 HR.out.2.2.2 (HT.out.below hJ HT.out.lt)
  rw [HKV.out.2] at hkw
  have HKW := Lib.hid hkw
  clear htw hkw
  go_enter Tryd.func5, Tryd.ntmps5
  go_upto_region 3 with fail
  rw [← hw0]
  clear hw0
  refine wp_region_any (by kernel_rfl) ?_
  refine Vals.wpAny_goodW (KBq w w0 p len cap zs k born own peer otsn ptsn rwnd out inn) (fun _ => (fun W => Below w0.heap.size w0 W)) [some 32, some 33, some 34, some 35, some 11] 151 _ _ rfl (by kernel_rfl) (by kernel_rfl) (by decide) ?step ?fin (Below.refl _ _).drew
  case step =>
    intro i o d ho hd listed a W hls hun hcl hJ hdf hdep hfr K hK
    match i, ho, hd with
    | 0, ho, hd =>
      have ho' := ho
      simp only [List.getElem?_toArray, List.getElem?_cons_zero, Option.some.injEq] at ho hd
      subst ho hd
      have r0 : a.eval (.tmp 0) = .slice p len cap := hfr 0 (by decide)
      rw [Vals.eval_tmp] at r0
      refine Vals.wpOp_run ho' rfl ?_
      clear hdep hfr ho' hdf hcl
      go_simp
      exact hK _ _ (fun _ _ h => h) hJ (fun _ => rfl)
    | 1, ho, hd =>
      have ho' := ho
      simp only [List.getElem?_toArray, List.getElem?_cons_zero, List.getElem?_cons_succ, Option.some.injEq] at ho hd
      subst ho hd
      have r32 : a.eval (.tmp 32) = .slice p len cap := (hdep ⟨0, .data⟩ (by simp) rfl).2 32 rfl
      rw [Vals.eval_tmp] at r32
      refine Vals.wpOp_run ho' rfl ?_
      clear hdep hfr ho' hdf hcl
      go_simp
      refine (HTW.out W hJ).mono ?_
      rintro e w' ⟨a1, c1, rfl, hr3, hb3⟩
      exact hK _ _ (KBq_mono hb3) (hJ.trans (hb3.mono hJ.size)) (fun _ => ⟨_, _, rfl, hr3.reads, hr3.le⟩)
    | 2, ho, hd =>
      have ho' := ho
      simp only [List.getElem?_toArray, List.getElem?_cons_zero, List.getElem?_cons_succ, Option.some.injEq] at ho hd
      subst ho hd
      have r6 : a.eval (.tmp 6) = .pointer (some ⟨w.heap.size, 0, none⟩) := hfr 6 (by decide)
      rw [Vals.eval_tmp] at r6
      have c0 := (HX.out.keep hJ).cell (i := 0) rfl
      have c1 := (HX.out.keep hJ).cell (i := 1) rfl
      have c2 := (HX.out.keep hJ).cell (i := 2) rfl
      have c3 := (HX.out.keep hJ).cell (i := 3) rfl
      have c4 := (HX.out.keep hJ).cell (i := 4) rfl
      have c5 := (HX.out.keep hJ).cell (i := 5) rfl
      have c6 := (HX.out.keep hJ).cell (i := 6) rfl
      have c7 := (HX.out.keep hJ).cell (i := 7) rfl
      refine Vals.wpOp_run ho' rfl ?_
      clear hdep hfr ho' hdf hcl
      go_simp
      exact hK _ _ (fun _ _ h => h) hJ (fun _ => rfl)
    | 3, ho, hd =>
      have ho' := ho
      simp only [List.getElem?_toArray, List.getElem?_cons_zero, List.getElem?_cons_succ, Option.some.injEq] at ho hd
      subst ho hd
      have g33 : ∃ a1_33 c1_33, a.eval (.tmp 33) = .slice a1_33 len c1_33 ∧ Reads W a1_33 len zs ∧ len ≤ c1_33 := (hdep ⟨1, .data⟩ (by simp) rfl).2 33 rfl
      rw [Vals.eval_tmp] at g33
      obtain ⟨a1_33, c1_33, r33, h33_0, h33_1⟩ := g33
      have r34 : a.eval (.tmp 34) = .agg #[.int .i64 born, .int .u32 own, .int .u32 peer, .int .u32 otsn, .int .u32 ptsn, .int .u32 rwnd, .int .u16 out, .int .u16 inn] := (hdep ⟨2, .data⟩ (by simp) rfl).2 34 rfl
      rw [Vals.eval_tmp] at r34
      refine Vals.wpOp_run ho' rfl ?_
      clear hdep hfr ho' hdf hcl
      go_simp
      refine (HKW.out _ _ W hJ h33_0 h33_1).mono ?_
      rintro e w' ⟨aw, cw, rfl, hr3, hc3, hm3, hb3⟩
      exact hK _ _ (KBq_mono hb3) (hJ.trans (hb3.mono hJ.size)) (fun _ => ⟨_, _, rfl, hr3, hc3, hm3⟩)
    | 4, ho, hd =>
      have ho' := ho
      simp only [List.getElem?_toArray, List.getElem?_cons_zero, List.getElem?_cons_succ, Option.some.injEq] at ho hd
      subst ho hd
      have g35 : ∃ aw_35 cw_35, a.eval (.tmp 35) = .slice aw_35 64 cw_35 ∧ Reads W aw_35 64 (writeK zs k) ∧ 64 ≤ cw_35 ∧ cw_35 ≤ maxLen := (hdep ⟨3, .data⟩ (by simp) rfl).2 35 rfl
      rw [Vals.eval_tmp] at g35
      obtain ⟨aw_35, cw_35, r35, h35_0, h35_1, h35_2⟩ := g35
      refine Vals.wpOp_run ho' rfl ?_
      clear hdep hfr ho' hdf hcl
      go_simp
      exact hK _ _ (fun _ _ h => h) hJ (fun _ => ⟨_, _, rfl, h35_0, h35_1, h35_2⟩)
    | i + 5, ho, hd => simp at ho
  case fin =>
    intro listed W f' hall hJ hG
    have q0 : f' 32 = .slice p len cap := hG 0 32 rfl
    obtain ⟨a1_33, c1_33, q1, hq33_0, hq33_1⟩ : ∃ a1_33 c1_33, f' 33 = .slice a1_33 len c1_33 ∧ Reads W a1_33 len zs ∧ len ≤ c1_33 := hG 1 33 rfl
    have q2 : f' 34 = .agg #[.int .i64 born, .int .u32 own, .int .u32 peer, .int .u32 otsn, .int .u32 ptsn, .int .u32 rwnd, .int .u16 out, .int .u16 inn] := hG 2 34 rfl
    obtain ⟨aw_35, cw_35, q3, hq35_0, hq35_1, hq35_2⟩ : ∃ aw_35 cw_35, f' 35 = .slice aw_35 64 cw_35 ∧ Reads W aw_35 64 (writeK zs k) ∧ 64 ≤ cw_35 ∧ cw_35 ≤ maxLen := hG 3 35 rfl
    obtain ⟨aw_11, cw_11, q4, hq11_0, hq11_1, hq11_2⟩ : ∃ aw_11 cw_11, f' 11 = .slice aw_11 64 cw_11 ∧ Reads W aw_11 64 (writeK zs k) ∧ 64 ≤ cw_11 ∧ cw_11 ≤ maxLen := hG 4 11 rfl
    clear hG hall
    simp only [Vals.puts, Vals.pairs, List.filterMap_cons, List.filterMap_nil, id, List.map_cons, List.map_nil, List.foldl_cons, List.foldl_nil, q0, q1, q2, q3, q4]
    clear q0 q1 q2 q3 q4
    go_frame
    clear HTW HKW
    obtain ⟨gb, off, rfl⟩ := hq11_0.some_of (by omega)
    have hk1 := KR p len cap zs (some ⟨gb, off, none⟩) 64 cw_11 (writeK zs k) W (HR.out.1.below hJ) HR.out.2.1 (by omega) HR.out.2.2.1 hq11_0 (writeK_byt _ _) (by omega) hq11_1 hq11_2 (HT.out.below hJ HT.out.lt)
    rw [readK_write HR.out.2.2.2] at hk1
    obtain ⟨i, m, j, hi32, hj64, hm64, HM, HWC⟩ := turnsK HC0.out.1
    have H1 := Lib.hid (And.intro hJ (And.intro hq11_0 (And.intro (HX.out.keep hJ) hq11_2)))
    have hcw : (64 : Int) ≤ cw_11 := by omega
    have hjc : (j : Int) ≤ cw_11 := by omega
    clear hJ hq11_0 hq11_2
    by_cases p0 : 0 ≤ born
    · have q0 : decide (0 ≤ born) = true := decide_eq_true p0
      by_cases p1 : own = 0
      · subst p1
        have hmay : mayK k = false := by rw [HKV.out.1]; simp [mayK] <;> omega
        rw [if_neg (by rw [hmay]; decide)] at hk1
        simp only [show noK.val = .agg #[.int .i64 0, .int .u32 0, .int .u32 0, .int .u32 0, .int .u32 0, .int .u32 0, .int .u16 0, .int .u16 0] from rfl] at hk1
        have HC := Lib.hid hk1
        clear hk1 hmay
        go_wp2_with fail
        refine HC.out.mono ?_
        rintro e w3 ⟨rfl, hb3⟩
        obtain ⟨w4, hw4⟩ : ∃ w4, w4 = w3.alloc (.cells #[.int .i64 0, .int .u32 0, .int .u32 0, .int .u32 0, .int .u32 0, .int .u32 0, .int .u16 0, .int .u16 0] 26) := ⟨_, rfl⟩
        have hb34 : Below w3.heap.size w3 w4 := by rw [hw4]; exact (Below.refl _ _).alloc (Nat.le_refl _) _
        have hbb := hb3.trans (hb34.mono hb3.size)
        have hX4 := H1.out.2.2.1.keep hbb
        have hA4 : Arr w4 w3.heap.size 26 [.int .i64 0, .int .u32 0, .int .u32 0, .int .u32 0, .int .u32 0, .int .u32 0, .int .u16 0, .int .u16 0] := by rw [hw4]; exact arr_new _ _ _
        have f0 := hX4.cell (i := 0) rfl
        have g0 := hA4.cell (i := 0) rfl
        have f1 := hX4.cell (i := 1) rfl
        have g1 := hA4.cell (i := 1) rfl
        have f2 := hX4.cell (i := 2) rfl
        have g2 := hA4.cell (i := 2) rfl
        have f3 := hX4.cell (i := 3) rfl
        have g3 := hA4.cell (i := 3) rfl
        have f4 := hX4.cell (i := 4) rfl
        have g4 := hA4.cell (i := 4) rfl
        have f5 := hX4.cell (i := 5) rfl
        have g5 := hA4.cell (i := 5) rfl
        have f6 := hX4.cell (i := 6) rfl
        have g6 := hA4.cell (i := 6) rfl
        have f7 := hX4.cell (i := 7) rfl
        have g7 := hA4.cell (i := 7) rfl
        have htw := twinK_any (some ⟨gb, off, none⟩) 64 cw_11 (writeK zs k) w4 (H1.out.2.1.below hbb) (by omega)
        have H4 := Lib.hid (And.intro (H1.out.1.trans (hbb.mono H1.out.1.size)) (And.intro (H1.out.2.1.below hbb) hw4))
        rw [hw4] at f0 g0 f1 g1 f2 g2 f3 g3 f4 g4 f5 g5 f6 g6 f7 g7 htw
        have HTW := Lib.hid htw
        clear hb3 hb34 hbb hX4 hA4 htw hw4 HC
        go_wp2_with fail
        refine HTW.out.mono ?_
        rintro e w5 ⟨ax, cx, rfl, hx, hb5⟩
        rw [← H4.out.2.2] at hb5 hx
        clear f0 g0 f1 g1 f2 g2 f3 g3 f4 g4 f5 g5 f6 g6 f7 g7 HTW
        obtain ⟨hxl, ⟨_, hx0, _⟩ | ⟨gx, sp, rfl, hgx, hblk, hsp, hcx, hmx⟩⟩ := hx
        · omega
        rw [writeK_len] at hcx
        have e0 := hblk.cell (i := m) (by rw [List.length_append, writeK_len]; omega)
        rw [List.getElem?_append_left (by rw [writeK_len]; omega)] at e0
        have f0 := hblk.free (m)
        have hby := (writeK_byt zs k).getD (m)
        obtain ⟨v, hv⟩ : ∃ v, v = bits .xor .u8 ((writeK zs k)[m]?.getD 0) cb := ⟨_, rfl⟩
        have hvb : 0 ≤ v ∧ v < 256 := by have := HC0.out.2; rw [hv]; exact xor_in hby.1 hby.2 (by omega) (by omega)
        obtain ⟨y, hy⟩ : ∃ y, y = (writeK zs k)[m]?.getD 0 := ⟨_, rfl⟩
        rw [← hy] at e0 hv
        obtain ⟨w6, hw6⟩ : ∃ w6, w6 = w5.setCell ⟨gx, m, none⟩ (.int .u8 v) := ⟨_, rfl⟩
        have hb6 : Below w4.heap.size w4 w6 := by rw [hw6]; exact hb5.setCell (p := ⟨gx, m, none⟩) hgx _
        have hblk6 : Blk w6 gx ((writeK zs k).set (m) v ++ sp) := by rw [hw6]; have h := hblk.set (m) v; rwa [List.set_append_left _ _ (by rw [writeK_len]; omega)] at h
        have hx6 : Reads w6 (some ⟨gx, 0, none⟩) 64 ((writeK zs k).set (m) v) := by have h := hblk6.reads 0 64 (by simp [writeK_len]); rwa [List.drop_zero, List.take_left' (by rw [List.length_set, writeK_len])] at h
        have hxb : Byt ((writeK zs k).set (m) v) := (writeK_byt zs k).set _ hvb.1 hvb.2
        have hB6 := H4.out.1.trans (hb6.mono H4.out.1.size)
        have hk1 := KR p len cap zs (some ⟨gx, 0, none⟩) 64 cx ((writeK zs k).set (m) v) w6 (HR.out.1.below hB6) HR.out.2.1 (by omega) HR.out.2.2.1 hx6 hxb (by omega) (by omega) hmx (HT.out.below hB6 HT.out.lt)
        have hE1 : cb ≠ 0 → (readK zs ((writeK zs k).set (m) v)).2 = 10 := by have := HC0.out.2; intro h; rw [hv, hy, HM.out]; exact readK_xor hi32 (by omega) (by omega) h
        obtain ⟨K1, hK1⟩ : ∃ K1, K1 = (readK zs ((writeK zs k).set (m) v)).1 := ⟨_, rfl⟩
        obtain ⟨E1, hE1'⟩ : ∃ E1, E1 = (readK zs ((writeK zs k).set (m) v)).2 := ⟨_, rfl⟩
        rw [← hK1, ← hE1'] at hk1
        rw [← hE1'] at hE1
        unfold KV.val at hk1
        rw [hw6] at hk1
        have HC := Lib.hid hk1
        have H6 := Lib.hid (And.intro hB6 (And.intro (H4.out.2.1.below hb6) hw6))
        have HE1 := Lib.hid hE1
        have HV := Lib.hid hvb
        clear hk1 hE1 hK1 hE1' hx6 hxb hB6 hb6 hblk6 hw6 hblk hsp hgx hxl hb5 hmx hcx H4 hy hby hvb
        subst hv
        have hwc := HWC.out.1
        have hi := HWC.out.2.1
        have hwm := HWC.out.2.2.1
        go_wp2_with fail
        clear hwc hi hwm
        refine HC.out.mono ?_
        rintro e w7 ⟨rfl, hb7⟩
        rw [← H6.out.2.2] at hb7
        clear e0 f0 HC
        obtain ⟨w8, hw8⟩ : ∃ w', w' = w7.alloc (.cells #[.int .i64 K1.born, .int .u32 K1.own, .int .u32 K1.peer, .int .u32 K1.otsn, .int .u32 K1.ptsn, .int .u32 K1.rwnd, .int .u16 K1.out, .int .u16 K1.inn] 26) := ⟨_, rfl⟩
        have hbn : Below w7.heap.size w7 w8 := by rw [hw8]; exact (Below.refl _ _).alloc (Nat.le_refl _) _
        have hbb := hb7.trans (hbn.mono hb7.size)
        have hB8 := H6.out.1.trans (hbb.mono H6.out.1.size)
        have htw := twinK_any (some ⟨gb, off, none⟩) 64 cw_11 (writeK zs k) w8 (H6.out.2.1.below hbb) (by omega)
        have H8 := Lib.hid (And.intro hB8 (And.intro (H6.out.2.1.below hbb) hw8))
        rw [hw8] at htw
        have HTW := Lib.hid htw
        clear hb7 hbn hbb hB8 htw hw8 H6
        go_wp2_with fail
        refine HTW.out.mono ?_
        rintro e w9 ⟨ay, cy, rfl, hy, hb9⟩
        rw [← H8.out.2.2] at hb9 hy
        have hB9 := H8.out.1.trans (hb9.mono H8.out.1.size)
        obtain ⟨a10, c10, w10, happ, H10⟩ := hy.appends hb9.size q len2 cap2 ys (HR2.out.1.below hB9) (by omega)
        have hb10 := hb9.trans H10.out.2
        have hB10 := H8.out.1.trans (hb10.mono H8.out.1.size)
        have hk1 := KR p len cap zs a10 (64 + len2) c10 (writeK zs k ++ ys) w10 (HR.out.1.below hB10) HR.out.2.1 (by omega) HR.out.2.2.1 H10.out.1.reads ((writeK_byt _ _).append HR2.out.2.1) (by omega) H10.out.1.le H10.out.1.max (HT.out.below hB10 HT.out.lt)
        have hyl := HR2.out.1.1
        have hE2 : len2 ≠ 0 → (readK zs (writeK zs k ++ ys)).2 = 7 := fun h => readK_other (by rw [List.length_append, writeK_len]; omega)
        obtain ⟨K2, hK2⟩ : ∃ K2, K2 = (readK zs (writeK zs k ++ ys)).1 := ⟨_, rfl⟩
        obtain ⟨E2, hE2'⟩ : ∃ E2, E2 = (readK zs (writeK zs k ++ ys)).2 := ⟨_, rfl⟩
        rw [← hK2, ← hE2'] at hk1
        rw [← hE2'] at hE2
        unfold KV.val at hk1
        have HC := Lib.hid hk1
        have HE2 := Lib.hid hE2
        have H11 := Lib.hid (And.intro hB10 (H8.out.2.1.below hb10))
        clear hk1 hE2 hK2 hE2' hyl hb10 hB10 H10 hb9 hB9 hy HTW
        go_wp2_with (at_builtin; refine wpList_append_run rfl _ _ _ rfl _ _ _ _ rfl rfl happ ?_)
        refine HC.out.mono ?_
        rintro e w11 ⟨rfl, hb11⟩
        clear HC happ H8
        obtain ⟨w12, hw12⟩ : ∃ w', w' = w11.alloc (.cells #[.int .i64 K2.born, .int .u32 K2.own, .int .u32 K2.peer, .int .u32 K2.otsn, .int .u32 K2.ptsn, .int .u32 K2.rwnd, .int .u16 K2.out, .int .u16 K2.inn] 26) := ⟨_, rfl⟩
        have hbn : Below w11.heap.size w11 w12 := by rw [hw12]; exact (Below.refl _ _).alloc (Nat.le_refl _) _
        have hbb := hb11.trans (hbn.mono hb11.size)
        have hB12 := H11.out.1.trans (hbb.mono H11.out.1.size)
        have hpj := (H11.out.2.below hbb).part 0 j (by omega)
        rw [List.drop_zero, Nat.add_zero] at hpj
        have hk1 := KR p len cap zs (some ⟨gb, off, none⟩) j cw_11 ((writeK zs k).take j) w12 (HR.out.1.below hB12) HR.out.2.1 (by omega) HR.out.2.2.1 hpj ((writeK_byt _ _).take j) (by omega) (by omega) H1.out.2.2.2 (HT.out.below hB12 HT.out.lt)
        obtain ⟨K3, hK3⟩ : ∃ K3, K3 = (readK zs ((writeK zs k).take j)).1 := ⟨_, rfl⟩
        rw [← hK3, readK_other (by rw [List.length_take, writeK_len]; omega)] at hk1
        unfold KV.val at hk1
        have H12 := Lib.hid (And.intro hB12 hw12)
        rw [hw12] at hk1
        have HC := Lib.hid hk1
        clear hk1 hK3 hpj hB12 hbb hbn hb11 H11 hw12
        have hwc := HWC.out.1
        have hj := HWC.out.2.2.2
        go_wp2_with fail
        clear hwc hj
        refine HC.out.mono ?_
        rintro e w13 ⟨rfl, hb13⟩
        rw [← H12.out.2] at hb13
        clear HC
        obtain ⟨w14, hw14⟩ : ∃ w', w' = w13.alloc (.cells #[.int .i64 K3.born, .int .u32 K3.own, .int .u32 K3.peer, .int .u32 K3.otsn, .int .u32 K3.ptsn, .int .u32 K3.rwnd, .int .u16 K3.out, .int .u16 K3.inn] 26) := ⟨_, rfl⟩
        have hbn : Below w13.heap.size w13 w14 := by rw [hw14]; exact (Below.refl _ _).alloc (Nat.le_refl _) _
        have hbb := hb13.trans (hbn.mono hb13.size)
        have hB14 := H12.out.1.trans (hbb.mono H12.out.1.size)
        have hwk := WK w14 (HT.out.below hB14 HT.out.lt)
        have H14 := Lib.hid (And.intro hB14 hw14)
        rw [hw14] at hwk
        have HC := Lib.hid hwk
        clear hwk hb13 hbn hbb hB14 hw14 H12
        by_cases hcb : cb = 0
        · have hcd : (cb != 0) = false := by simp [hcb]
          by_cases hl2 : len2 = 0
          · have hld : ¬ (0 : Int) < len2 := by omega
            go_wp2_with fail
            refine HC.out.mono ?_
            rintro e w15 ⟨rfl, hb15⟩
            rw [← H14.out.2] at hb15
            have HW := Lib.hid (HB0.out.trans ((H14.out.1.trans (hb15.mono H14.out.1.size)).mono HB0.out.size))
            clear hb15
            go_wp2
            go_ret
            exact ⟨rfl, HW.out⟩
          · have hld : (0 : Int) < len2 := by omega
            have hF := HE2.out hl2
            go_wp2_with fail
            refine HC.out.mono ?_
            rintro e w15 ⟨rfl, hb15⟩
            rw [← H14.out.2] at hb15
            have HW := Lib.hid (HB0.out.trans ((H14.out.1.trans (hb15.mono H14.out.1.size)).mono HB0.out.size))
            clear hb15
            go_wp2
            go_ret
            exact ⟨rfl, HW.out⟩
        · have hcd : (cb != 0) = true := by simp [hcb]
          have hE := HE1.out hcb
          by_cases hl2 : len2 = 0
          · have hld : ¬ (0 : Int) < len2 := by omega
            go_wp2_with fail
            refine HC.out.mono ?_
            rintro e w15 ⟨rfl, hb15⟩
            rw [← H14.out.2] at hb15
            have HW := Lib.hid (HB0.out.trans ((H14.out.1.trans (hb15.mono H14.out.1.size)).mono HB0.out.size))
            clear hb15
            go_wp2
            go_ret
            exact ⟨rfl, HW.out⟩
          · have hld : (0 : Int) < len2 := by omega
            have hF := HE2.out hl2
            go_wp2_with fail
            refine HC.out.mono ?_
            rintro e w15 ⟨rfl, hb15⟩
            rw [← H14.out.2] at hb15
            have HW := Lib.hid (HB0.out.trans ((H14.out.1.trans (hb15.mono H14.out.1.size)).mono HB0.out.size))
            clear hb15
            go_wp2
            go_ret
            exact ⟨rfl, HW.out⟩
      · have q1 : (own != 0) = true := by simp [p1]
        by_cases p2 : peer = 0
        · subst p2
          have hmay : mayK k = false := by rw [HKV.out.1]; simp [mayK] <;> omega
          rw [if_neg (by rw [hmay]; decide)] at hk1
          simp only [show noK.val = .agg #[.int .i64 0, .int .u32 0, .int .u32 0, .int .u32 0, .int .u32 0, .int .u32 0, .int .u16 0, .int .u16 0] from rfl] at hk1
          have HC := Lib.hid hk1
          clear hk1 hmay
          go_wp2_with fail
          refine HC.out.mono ?_
          rintro e w3 ⟨rfl, hb3⟩
          obtain ⟨w4, hw4⟩ : ∃ w4, w4 = w3.alloc (.cells #[.int .i64 0, .int .u32 0, .int .u32 0, .int .u32 0, .int .u32 0, .int .u32 0, .int .u16 0, .int .u16 0] 26) := ⟨_, rfl⟩
          have hb34 : Below w3.heap.size w3 w4 := by rw [hw4]; exact (Below.refl _ _).alloc (Nat.le_refl _) _
          have hbb := hb3.trans (hb34.mono hb3.size)
          have hX4 := H1.out.2.2.1.keep hbb
          have hA4 : Arr w4 w3.heap.size 26 [.int .i64 0, .int .u32 0, .int .u32 0, .int .u32 0, .int .u32 0, .int .u32 0, .int .u16 0, .int .u16 0] := by rw [hw4]; exact arr_new _ _ _
          have f0 := hX4.cell (i := 0) rfl
          have g0 := hA4.cell (i := 0) rfl
          have f1 := hX4.cell (i := 1) rfl
          have g1 := hA4.cell (i := 1) rfl
          have f2 := hX4.cell (i := 2) rfl
          have g2 := hA4.cell (i := 2) rfl
          have f3 := hX4.cell (i := 3) rfl
          have g3 := hA4.cell (i := 3) rfl
          have f4 := hX4.cell (i := 4) rfl
          have g4 := hA4.cell (i := 4) rfl
          have f5 := hX4.cell (i := 5) rfl
          have g5 := hA4.cell (i := 5) rfl
          have f6 := hX4.cell (i := 6) rfl
          have g6 := hA4.cell (i := 6) rfl
          have f7 := hX4.cell (i := 7) rfl
          have g7 := hA4.cell (i := 7) rfl
          have htw := twinK_any (some ⟨gb, off, none⟩) 64 cw_11 (writeK zs k) w4 (H1.out.2.1.below hbb) (by omega)
          have H4 := Lib.hid (And.intro (H1.out.1.trans (hbb.mono H1.out.1.size)) (And.intro (H1.out.2.1.below hbb) hw4))
          rw [hw4] at f0 g0 f1 g1 f2 g2 f3 g3 f4 g4 f5 g5 f6 g6 f7 g7 htw
          have HTW := Lib.hid htw
          clear hb3 hb34 hbb hX4 hA4 htw hw4 HC
          go_wp2_with fail
          refine HTW.out.mono ?_
          rintro e w5 ⟨ax, cx, rfl, hx, hb5⟩
          rw [← H4.out.2.2] at hb5 hx
          clear f0 g0 f1 g1 f2 g2 f3 g3 f4 g4 f5 g5 f6 g6 f7 g7 HTW
          obtain ⟨hxl, ⟨_, hx0, _⟩ | ⟨gx, sp, rfl, hgx, hblk, hsp, hcx, hmx⟩⟩ := hx
          · omega
          rw [writeK_len] at hcx
          have e0 := hblk.cell (i := m) (by rw [List.length_append, writeK_len]; omega)
          rw [List.getElem?_append_left (by rw [writeK_len]; omega)] at e0
          have f0 := hblk.free (m)
          have hby := (writeK_byt zs k).getD (m)
          obtain ⟨v, hv⟩ : ∃ v, v = bits .xor .u8 ((writeK zs k)[m]?.getD 0) cb := ⟨_, rfl⟩
          have hvb : 0 ≤ v ∧ v < 256 := by have := HC0.out.2; rw [hv]; exact xor_in hby.1 hby.2 (by omega) (by omega)
          obtain ⟨y, hy⟩ : ∃ y, y = (writeK zs k)[m]?.getD 0 := ⟨_, rfl⟩
          rw [← hy] at e0 hv
          obtain ⟨w6, hw6⟩ : ∃ w6, w6 = w5.setCell ⟨gx, m, none⟩ (.int .u8 v) := ⟨_, rfl⟩
          have hb6 : Below w4.heap.size w4 w6 := by rw [hw6]; exact hb5.setCell (p := ⟨gx, m, none⟩) hgx _
          have hblk6 : Blk w6 gx ((writeK zs k).set (m) v ++ sp) := by rw [hw6]; have h := hblk.set (m) v; rwa [List.set_append_left _ _ (by rw [writeK_len]; omega)] at h
          have hx6 : Reads w6 (some ⟨gx, 0, none⟩) 64 ((writeK zs k).set (m) v) := by have h := hblk6.reads 0 64 (by simp [writeK_len]); rwa [List.drop_zero, List.take_left' (by rw [List.length_set, writeK_len])] at h
          have hxb : Byt ((writeK zs k).set (m) v) := (writeK_byt zs k).set _ hvb.1 hvb.2
          have hB6 := H4.out.1.trans (hb6.mono H4.out.1.size)
          have hk1 := KR p len cap zs (some ⟨gx, 0, none⟩) 64 cx ((writeK zs k).set (m) v) w6 (HR.out.1.below hB6) HR.out.2.1 (by omega) HR.out.2.2.1 hx6 hxb (by omega) (by omega) hmx (HT.out.below hB6 HT.out.lt)
          have hE1 : cb ≠ 0 → (readK zs ((writeK zs k).set (m) v)).2 = 10 := by have := HC0.out.2; intro h; rw [hv, hy, HM.out]; exact readK_xor hi32 (by omega) (by omega) h
          obtain ⟨K1, hK1⟩ : ∃ K1, K1 = (readK zs ((writeK zs k).set (m) v)).1 := ⟨_, rfl⟩
          obtain ⟨E1, hE1'⟩ : ∃ E1, E1 = (readK zs ((writeK zs k).set (m) v)).2 := ⟨_, rfl⟩
          rw [← hK1, ← hE1'] at hk1
          rw [← hE1'] at hE1
          unfold KV.val at hk1
          rw [hw6] at hk1
          have HC := Lib.hid hk1
          have H6 := Lib.hid (And.intro hB6 (And.intro (H4.out.2.1.below hb6) hw6))
          have HE1 := Lib.hid hE1
          have HV := Lib.hid hvb
          clear hk1 hE1 hK1 hE1' hx6 hxb hB6 hb6 hblk6 hw6 hblk hsp hgx hxl hb5 hmx hcx H4 hy hby hvb
          subst hv
          have hwc := HWC.out.1
          have hi := HWC.out.2.1
          have hwm := HWC.out.2.2.1
          go_wp2_with fail
          clear hwc hi hwm
          refine HC.out.mono ?_
          rintro e w7 ⟨rfl, hb7⟩
          rw [← H6.out.2.2] at hb7
          clear e0 f0 HC
          obtain ⟨w8, hw8⟩ : ∃ w', w' = w7.alloc (.cells #[.int .i64 K1.born, .int .u32 K1.own, .int .u32 K1.peer, .int .u32 K1.otsn, .int .u32 K1.ptsn, .int .u32 K1.rwnd, .int .u16 K1.out, .int .u16 K1.inn] 26) := ⟨_, rfl⟩
          have hbn : Below w7.heap.size w7 w8 := by rw [hw8]; exact (Below.refl _ _).alloc (Nat.le_refl _) _
          have hbb := hb7.trans (hbn.mono hb7.size)
          have hB8 := H6.out.1.trans (hbb.mono H6.out.1.size)
          have htw := twinK_any (some ⟨gb, off, none⟩) 64 cw_11 (writeK zs k) w8 (H6.out.2.1.below hbb) (by omega)
          have H8 := Lib.hid (And.intro hB8 (And.intro (H6.out.2.1.below hbb) hw8))
          rw [hw8] at htw
          have HTW := Lib.hid htw
          clear hb7 hbn hbb hB8 htw hw8 H6
          go_wp2_with fail
          refine HTW.out.mono ?_
          rintro e w9 ⟨ay, cy, rfl, hy, hb9⟩
          rw [← H8.out.2.2] at hb9 hy
          have hB9 := H8.out.1.trans (hb9.mono H8.out.1.size)
          obtain ⟨a10, c10, w10, happ, H10⟩ := hy.appends hb9.size q len2 cap2 ys (HR2.out.1.below hB9) (by omega)
          have hb10 := hb9.trans H10.out.2
          have hB10 := H8.out.1.trans (hb10.mono H8.out.1.size)
          have hk1 := KR p len cap zs a10 (64 + len2) c10 (writeK zs k ++ ys) w10 (HR.out.1.below hB10) HR.out.2.1 (by omega) HR.out.2.2.1 H10.out.1.reads ((writeK_byt _ _).append HR2.out.2.1) (by omega) H10.out.1.le H10.out.1.max (HT.out.below hB10 HT.out.lt)
          have hyl := HR2.out.1.1
          have hE2 : len2 ≠ 0 → (readK zs (writeK zs k ++ ys)).2 = 7 := fun h => readK_other (by rw [List.length_append, writeK_len]; omega)
          obtain ⟨K2, hK2⟩ : ∃ K2, K2 = (readK zs (writeK zs k ++ ys)).1 := ⟨_, rfl⟩
          obtain ⟨E2, hE2'⟩ : ∃ E2, E2 = (readK zs (writeK zs k ++ ys)).2 := ⟨_, rfl⟩
          rw [← hK2, ← hE2'] at hk1
          rw [← hE2'] at hE2
          unfold KV.val at hk1
          have HC := Lib.hid hk1
          have HE2 := Lib.hid hE2
          have H11 := Lib.hid (And.intro hB10 (H8.out.2.1.below hb10))
          clear hk1 hE2 hK2 hE2' hyl hb10 hB10 H10 hb9 hB9 hy HTW
          go_wp2_with (at_builtin; refine wpList_append_run rfl _ _ _ rfl _ _ _ _ rfl rfl happ ?_)
          refine HC.out.mono ?_
          rintro e w11 ⟨rfl, hb11⟩
          clear HC happ H8
          obtain ⟨w12, hw12⟩ : ∃ w', w' = w11.alloc (.cells #[.int .i64 K2.born, .int .u32 K2.own, .int .u32 K2.peer, .int .u32 K2.otsn, .int .u32 K2.ptsn, .int .u32 K2.rwnd, .int .u16 K2.out, .int .u16 K2.inn] 26) := ⟨_, rfl⟩
          have hbn : Below w11.heap.size w11 w12 := by rw [hw12]; exact (Below.refl _ _).alloc (Nat.le_refl _) _
          have hbb := hb11.trans (hbn.mono hb11.size)
          have hB12 := H11.out.1.trans (hbb.mono H11.out.1.size)
          have hpj := (H11.out.2.below hbb).part 0 j (by omega)
          rw [List.drop_zero, Nat.add_zero] at hpj
          have hk1 := KR p len cap zs (some ⟨gb, off, none⟩) j cw_11 ((writeK zs k).take j) w12 (HR.out.1.below hB12) HR.out.2.1 (by omega) HR.out.2.2.1 hpj ((writeK_byt _ _).take j) (by omega) (by omega) H1.out.2.2.2 (HT.out.below hB12 HT.out.lt)
          obtain ⟨K3, hK3⟩ : ∃ K3, K3 = (readK zs ((writeK zs k).take j)).1 := ⟨_, rfl⟩
          rw [← hK3, readK_other (by rw [List.length_take, writeK_len]; omega)] at hk1
          unfold KV.val at hk1
          have H12 := Lib.hid (And.intro hB12 hw12)
          rw [hw12] at hk1
          have HC := Lib.hid hk1
          clear hk1 hK3 hpj hB12 hbb hbn hb11 H11 hw12
          have hwc := HWC.out.1
          have hj := HWC.out.2.2.2
          go_wp2_with fail
          clear hwc hj
          refine HC.out.mono ?_
          rintro e w13 ⟨rfl, hb13⟩
          rw [← H12.out.2] at hb13
          clear HC
          obtain ⟨w14, hw14⟩ : ∃ w', w' = w13.alloc (.cells #[.int .i64 K3.born, .int .u32 K3.own, .int .u32 K3.peer, .int .u32 K3.otsn, .int .u32 K3.ptsn, .int .u32 K3.rwnd, .int .u16 K3.out, .int .u16 K3.inn] 26) := ⟨_, rfl⟩
          have hbn : Below w13.heap.size w13 w14 := by rw [hw14]; exact (Below.refl _ _).alloc (Nat.le_refl _) _
          have hbb := hb13.trans (hbn.mono hb13.size)
          have hB14 := H12.out.1.trans (hbb.mono H12.out.1.size)
          have hwk := WK w14 (HT.out.below hB14 HT.out.lt)
          have H14 := Lib.hid (And.intro hB14 hw14)
          rw [hw14] at hwk
          have HC := Lib.hid hwk
          clear hwk hb13 hbn hbb hB14 hw14 H12
          by_cases hcb : cb = 0
          · have hcd : (cb != 0) = false := by simp [hcb]
            by_cases hl2 : len2 = 0
            · have hld : ¬ (0 : Int) < len2 := by omega
              go_wp2_with fail
              refine HC.out.mono ?_
              rintro e w15 ⟨rfl, hb15⟩
              rw [← H14.out.2] at hb15
              have HW := Lib.hid (HB0.out.trans ((H14.out.1.trans (hb15.mono H14.out.1.size)).mono HB0.out.size))
              clear hb15
              go_wp2
              go_ret
              exact ⟨rfl, HW.out⟩
            · have hld : (0 : Int) < len2 := by omega
              have hF := HE2.out hl2
              go_wp2_with fail
              refine HC.out.mono ?_
              rintro e w15 ⟨rfl, hb15⟩
              rw [← H14.out.2] at hb15
              have HW := Lib.hid (HB0.out.trans ((H14.out.1.trans (hb15.mono H14.out.1.size)).mono HB0.out.size))
              clear hb15
              go_wp2
              go_ret
              exact ⟨rfl, HW.out⟩
          · have hcd : (cb != 0) = true := by simp [hcb]
            have hE := HE1.out hcb
            by_cases hl2 : len2 = 0
            · have hld : ¬ (0 : Int) < len2 := by omega
              go_wp2_with fail
              refine HC.out.mono ?_
              rintro e w15 ⟨rfl, hb15⟩
              rw [← H14.out.2] at hb15
              have HW := Lib.hid (HB0.out.trans ((H14.out.1.trans (hb15.mono H14.out.1.size)).mono HB0.out.size))
              clear hb15
              go_wp2
              go_ret
              exact ⟨rfl, HW.out⟩
            · have hld : (0 : Int) < len2 := by omega
              have hF := HE2.out hl2
              go_wp2_with fail
              refine HC.out.mono ?_
              rintro e w15 ⟨rfl, hb15⟩
              rw [← H14.out.2] at hb15
              have HW := Lib.hid (HB0.out.trans ((H14.out.1.trans (hb15.mono H14.out.1.size)).mono HB0.out.size))
              clear hb15
              go_wp2
              go_ret
              exact ⟨rfl, HW.out⟩
        · have q2 : (peer != 0) = true := by simp [p2]
          by_cases p3 : out = 0
          · subst p3
            have hmay : mayK k = false := by rw [HKV.out.1]; simp [mayK] <;> omega
            rw [if_neg (by rw [hmay]; decide)] at hk1
            simp only [show noK.val = .agg #[.int .i64 0, .int .u32 0, .int .u32 0, .int .u32 0, .int .u32 0, .int .u32 0, .int .u16 0, .int .u16 0] from rfl] at hk1
            have HC := Lib.hid hk1
            clear hk1 hmay
            go_wp2_with fail
            refine HC.out.mono ?_
            rintro e w3 ⟨rfl, hb3⟩
            obtain ⟨w4, hw4⟩ : ∃ w4, w4 = w3.alloc (.cells #[.int .i64 0, .int .u32 0, .int .u32 0, .int .u32 0, .int .u32 0, .int .u32 0, .int .u16 0, .int .u16 0] 26) := ⟨_, rfl⟩
            have hb34 : Below w3.heap.size w3 w4 := by rw [hw4]; exact (Below.refl _ _).alloc (Nat.le_refl _) _
            have hbb := hb3.trans (hb34.mono hb3.size)
            have hX4 := H1.out.2.2.1.keep hbb
            have hA4 : Arr w4 w3.heap.size 26 [.int .i64 0, .int .u32 0, .int .u32 0, .int .u32 0, .int .u32 0, .int .u32 0, .int .u16 0, .int .u16 0] := by rw [hw4]; exact arr_new _ _ _
            have f0 := hX4.cell (i := 0) rfl
            have g0 := hA4.cell (i := 0) rfl
            have f1 := hX4.cell (i := 1) rfl
            have g1 := hA4.cell (i := 1) rfl
            have f2 := hX4.cell (i := 2) rfl
            have g2 := hA4.cell (i := 2) rfl
            have f3 := hX4.cell (i := 3) rfl
            have g3 := hA4.cell (i := 3) rfl
            have f4 := hX4.cell (i := 4) rfl
            have g4 := hA4.cell (i := 4) rfl
            have f5 := hX4.cell (i := 5) rfl
            have g5 := hA4.cell (i := 5) rfl
            have f6 := hX4.cell (i := 6) rfl
            have g6 := hA4.cell (i := 6) rfl
            have f7 := hX4.cell (i := 7) rfl
            have g7 := hA4.cell (i := 7) rfl
            have htw := twinK_any (some ⟨gb, off, none⟩) 64 cw_11 (writeK zs k) w4 (H1.out.2.1.below hbb) (by omega)
            have H4 := Lib.hid (And.intro (H1.out.1.trans (hbb.mono H1.out.1.size)) (And.intro (H1.out.2.1.below hbb) hw4))
            rw [hw4] at f0 g0 f1 g1 f2 g2 f3 g3 f4 g4 f5 g5 f6 g6 f7 g7 htw
            have HTW := Lib.hid htw
            clear hb3 hb34 hbb hX4 hA4 htw hw4 HC
            go_wp2_with fail
            refine HTW.out.mono ?_
            rintro e w5 ⟨ax, cx, rfl, hx, hb5⟩
            rw [← H4.out.2.2] at hb5 hx
            clear f0 g0 f1 g1 f2 g2 f3 g3 f4 g4 f5 g5 f6 g6 f7 g7 HTW
            obtain ⟨hxl, ⟨_, hx0, _⟩ | ⟨gx, sp, rfl, hgx, hblk, hsp, hcx, hmx⟩⟩ := hx
            · omega
            rw [writeK_len] at hcx
            have e0 := hblk.cell (i := m) (by rw [List.length_append, writeK_len]; omega)
            rw [List.getElem?_append_left (by rw [writeK_len]; omega)] at e0
            have f0 := hblk.free (m)
            have hby := (writeK_byt zs k).getD (m)
            obtain ⟨v, hv⟩ : ∃ v, v = bits .xor .u8 ((writeK zs k)[m]?.getD 0) cb := ⟨_, rfl⟩
            have hvb : 0 ≤ v ∧ v < 256 := by have := HC0.out.2; rw [hv]; exact xor_in hby.1 hby.2 (by omega) (by omega)
            obtain ⟨y, hy⟩ : ∃ y, y = (writeK zs k)[m]?.getD 0 := ⟨_, rfl⟩
            rw [← hy] at e0 hv
            obtain ⟨w6, hw6⟩ : ∃ w6, w6 = w5.setCell ⟨gx, m, none⟩ (.int .u8 v) := ⟨_, rfl⟩
            have hb6 : Below w4.heap.size w4 w6 := by rw [hw6]; exact hb5.setCell (p := ⟨gx, m, none⟩) hgx _
            have hblk6 : Blk w6 gx ((writeK zs k).set (m) v ++ sp) := by rw [hw6]; have h := hblk.set (m) v; rwa [List.set_append_left _ _ (by rw [writeK_len]; omega)] at h
            have hx6 : Reads w6 (some ⟨gx, 0, none⟩) 64 ((writeK zs k).set (m) v) := by have h := hblk6.reads 0 64 (by simp [writeK_len]); rwa [List.drop_zero, List.take_left' (by rw [List.length_set, writeK_len])] at h
            have hxb : Byt ((writeK zs k).set (m) v) := (writeK_byt zs k).set _ hvb.1 hvb.2
            have hB6 := H4.out.1.trans (hb6.mono H4.out.1.size)
            have hk1 := KR p len cap zs (some ⟨gx, 0, none⟩) 64 cx ((writeK zs k).set (m) v) w6 (HR.out.1.below hB6) HR.out.2.1 (by omega) HR.out.2.2.1 hx6 hxb (by omega) (by omega) hmx (HT.out.below hB6 HT.out.lt)
            have hE1 : cb ≠ 0 → (readK zs ((writeK zs k).set (m) v)).2 = 10 := by have := HC0.out.2; intro h; rw [hv, hy, HM.out]; exact readK_xor hi32 (by omega) (by omega) h
            obtain ⟨K1, hK1⟩ : ∃ K1, K1 = (readK zs ((writeK zs k).set (m) v)).1 := ⟨_, rfl⟩
            obtain ⟨E1, hE1'⟩ : ∃ E1, E1 = (readK zs ((writeK zs k).set (m) v)).2 := ⟨_, rfl⟩
            rw [← hK1, ← hE1'] at hk1
            rw [← hE1'] at hE1
            unfold KV.val at hk1
            rw [hw6] at hk1
            have HC := Lib.hid hk1
            have H6 := Lib.hid (And.intro hB6 (And.intro (H4.out.2.1.below hb6) hw6))
            have HE1 := Lib.hid hE1
            have HV := Lib.hid hvb
            clear hk1 hE1 hK1 hE1' hx6 hxb hB6 hb6 hblk6 hw6 hblk hsp hgx hxl hb5 hmx hcx H4 hy hby hvb
            subst hv
            have hwc := HWC.out.1
            have hi := HWC.out.2.1
            have hwm := HWC.out.2.2.1
            go_wp2_with fail
            clear hwc hi hwm
            refine HC.out.mono ?_
            rintro e w7 ⟨rfl, hb7⟩
            rw [← H6.out.2.2] at hb7
            clear e0 f0 HC
            obtain ⟨w8, hw8⟩ : ∃ w', w' = w7.alloc (.cells #[.int .i64 K1.born, .int .u32 K1.own, .int .u32 K1.peer, .int .u32 K1.otsn, .int .u32 K1.ptsn, .int .u32 K1.rwnd, .int .u16 K1.out, .int .u16 K1.inn] 26) := ⟨_, rfl⟩
            have hbn : Below w7.heap.size w7 w8 := by rw [hw8]; exact (Below.refl _ _).alloc (Nat.le_refl _) _
            have hbb := hb7.trans (hbn.mono hb7.size)
            have hB8 := H6.out.1.trans (hbb.mono H6.out.1.size)
            have htw := twinK_any (some ⟨gb, off, none⟩) 64 cw_11 (writeK zs k) w8 (H6.out.2.1.below hbb) (by omega)
            have H8 := Lib.hid (And.intro hB8 (And.intro (H6.out.2.1.below hbb) hw8))
            rw [hw8] at htw
            have HTW := Lib.hid htw
            clear hb7 hbn hbb hB8 htw hw8 H6
            go_wp2_with fail
            refine HTW.out.mono ?_
            rintro e w9 ⟨ay, cy, rfl, hy, hb9⟩
            rw [← H8.out.2.2] at hb9 hy
            have hB9 := H8.out.1.trans (hb9.mono H8.out.1.size)
            obtain ⟨a10, c10, w10, happ, H10⟩ := hy.appends hb9.size q len2 cap2 ys (HR2.out.1.below hB9) (by omega)
            have hb10 := hb9.trans H10.out.2
            have hB10 := H8.out.1.trans (hb10.mono H8.out.1.size)
            have hk1 := KR p len cap zs a10 (64 + len2) c10 (writeK zs k ++ ys) w10 (HR.out.1.below hB10) HR.out.2.1 (by omega) HR.out.2.2.1 H10.out.1.reads ((writeK_byt _ _).append HR2.out.2.1) (by omega) H10.out.1.le H10.out.1.max (HT.out.below hB10 HT.out.lt)
            have hyl := HR2.out.1.1
            have hE2 : len2 ≠ 0 → (readK zs (writeK zs k ++ ys)).2 = 7 := fun h => readK_other (by rw [List.length_append, writeK_len]; omega)
            obtain ⟨K2, hK2⟩ : ∃ K2, K2 = (readK zs (writeK zs k ++ ys)).1 := ⟨_, rfl⟩
            obtain ⟨E2, hE2'⟩ : ∃ E2, E2 = (readK zs (writeK zs k ++ ys)).2 := ⟨_, rfl⟩
            rw [← hK2, ← hE2'] at hk1
            rw [← hE2'] at hE2
            unfold KV.val at hk1
            have HC := Lib.hid hk1
            have HE2 := Lib.hid hE2
            have H11 := Lib.hid (And.intro hB10 (H8.out.2.1.below hb10))
            clear hk1 hE2 hK2 hE2' hyl hb10 hB10 H10 hb9 hB9 hy HTW
            go_wp2_with (at_builtin; refine wpList_append_run rfl _ _ _ rfl _ _ _ _ rfl rfl happ ?_)
            refine HC.out.mono ?_
            rintro e w11 ⟨rfl, hb11⟩
            clear HC happ H8
            obtain ⟨w12, hw12⟩ : ∃ w', w' = w11.alloc (.cells #[.int .i64 K2.born, .int .u32 K2.own, .int .u32 K2.peer, .int .u32 K2.otsn, .int .u32 K2.ptsn, .int .u32 K2.rwnd, .int .u16 K2.out, .int .u16 K2.inn] 26) := ⟨_, rfl⟩
            have hbn : Below w11.heap.size w11 w12 := by rw [hw12]; exact (Below.refl _ _).alloc (Nat.le_refl _) _
            have hbb := hb11.trans (hbn.mono hb11.size)
            have hB12 := H11.out.1.trans (hbb.mono H11.out.1.size)
            have hpj := (H11.out.2.below hbb).part 0 j (by omega)
            rw [List.drop_zero, Nat.add_zero] at hpj
            have hk1 := KR p len cap zs (some ⟨gb, off, none⟩) j cw_11 ((writeK zs k).take j) w12 (HR.out.1.below hB12) HR.out.2.1 (by omega) HR.out.2.2.1 hpj ((writeK_byt _ _).take j) (by omega) (by omega) H1.out.2.2.2 (HT.out.below hB12 HT.out.lt)
            obtain ⟨K3, hK3⟩ : ∃ K3, K3 = (readK zs ((writeK zs k).take j)).1 := ⟨_, rfl⟩
            rw [← hK3, readK_other (by rw [List.length_take, writeK_len]; omega)] at hk1
            unfold KV.val at hk1
            have H12 := Lib.hid (And.intro hB12 hw12)
            rw [hw12] at hk1
            have HC := Lib.hid hk1
            clear hk1 hK3 hpj hB12 hbb hbn hb11 H11 hw12
            have hwc := HWC.out.1
            have hj := HWC.out.2.2.2
            go_wp2_with fail
            clear hwc hj
            refine HC.out.mono ?_
            rintro e w13 ⟨rfl, hb13⟩
            rw [← H12.out.2] at hb13
            clear HC
            obtain ⟨w14, hw14⟩ : ∃ w', w' = w13.alloc (.cells #[.int .i64 K3.born, .int .u32 K3.own, .int .u32 K3.peer, .int .u32 K3.otsn, .int .u32 K3.ptsn, .int .u32 K3.rwnd, .int .u16 K3.out, .int .u16 K3.inn] 26) := ⟨_, rfl⟩
            have hbn : Below w13.heap.size w13 w14 := by rw [hw14]; exact (Below.refl _ _).alloc (Nat.le_refl _) _
            have hbb := hb13.trans (hbn.mono hb13.size)
            have hB14 := H12.out.1.trans (hbb.mono H12.out.1.size)
            have hwk := WK w14 (HT.out.below hB14 HT.out.lt)
            have H14 := Lib.hid (And.intro hB14 hw14)
            rw [hw14] at hwk
            have HC := Lib.hid hwk
            clear hwk hb13 hbn hbb hB14 hw14 H12
            by_cases hcb : cb = 0
            · have hcd : (cb != 0) = false := by simp [hcb]
              by_cases hl2 : len2 = 0
              · have hld : ¬ (0 : Int) < len2 := by omega
                go_wp2_with fail
                refine HC.out.mono ?_
                rintro e w15 ⟨rfl, hb15⟩
                rw [← H14.out.2] at hb15
                have HW := Lib.hid (HB0.out.trans ((H14.out.1.trans (hb15.mono H14.out.1.size)).mono HB0.out.size))
                clear hb15
                go_wp2
                go_ret
                exact ⟨rfl, HW.out⟩
              · have hld : (0 : Int) < len2 := by omega
                have hF := HE2.out hl2
                go_wp2_with fail
                refine HC.out.mono ?_
                rintro e w15 ⟨rfl, hb15⟩
                rw [← H14.out.2] at hb15
                have HW := Lib.hid (HB0.out.trans ((H14.out.1.trans (hb15.mono H14.out.1.size)).mono HB0.out.size))
                clear hb15
                go_wp2
                go_ret
                exact ⟨rfl, HW.out⟩
            · have hcd : (cb != 0) = true := by simp [hcb]
              have hE := HE1.out hcb
              by_cases hl2 : len2 = 0
              · have hld : ¬ (0 : Int) < len2 := by omega
                go_wp2_with fail
                refine HC.out.mono ?_
                rintro e w15 ⟨rfl, hb15⟩
                rw [← H14.out.2] at hb15
                have HW := Lib.hid (HB0.out.trans ((H14.out.1.trans (hb15.mono H14.out.1.size)).mono HB0.out.size))
                clear hb15
                go_wp2
                go_ret
                exact ⟨rfl, HW.out⟩
              · have hld : (0 : Int) < len2 := by omega
                have hF := HE2.out hl2
                go_wp2_with fail
                refine HC.out.mono ?_
                rintro e w15 ⟨rfl, hb15⟩
                rw [← H14.out.2] at hb15
                have HW := Lib.hid (HB0.out.trans ((H14.out.1.trans (hb15.mono H14.out.1.size)).mono HB0.out.size))
                clear hb15
                go_wp2
                go_ret
                exact ⟨rfl, HW.out⟩
          · have q3 : (out != 0) = true := by simp [p3]
            by_cases p4 : inn = 0
            · subst p4
              have hmay : mayK k = false := by rw [HKV.out.1]; simp [mayK] <;> omega
              rw [if_neg (by rw [hmay]; decide)] at hk1
              simp only [show noK.val = .agg #[.int .i64 0, .int .u32 0, .int .u32 0, .int .u32 0, .int .u32 0, .int .u32 0, .int .u16 0, .int .u16 0] from rfl] at hk1
              have HC := Lib.hid hk1
              clear hk1 hmay
              go_wp2_with fail
              refine HC.out.mono ?_
              rintro e w3 ⟨rfl, hb3⟩
              obtain ⟨w4, hw4⟩ : ∃ w4, w4 = w3.alloc (.cells #[.int .i64 0, .int .u32 0, .int .u32 0, .int .u32 0, .int .u32 0, .int .u32 0, .int .u16 0, .int .u16 0] 26) := ⟨_, rfl⟩
              have hb34 : Below w3.heap.size w3 w4 := by rw [hw4]; exact (Below.refl _ _).alloc (Nat.le_refl _) _
              have hbb := hb3.trans (hb34.mono hb3.size)
              have hX4 := H1.out.2.2.1.keep hbb
              have hA4 : Arr w4 w3.heap.size 26 [.int .i64 0, .int .u32 0, .int .u32 0, .int .u32 0, .int .u32 0, .int .u32 0, .int .u16 0, .int .u16 0] := by rw [hw4]; exact arr_new _ _ _
              have f0 := hX4.cell (i := 0) rfl
              have g0 := hA4.cell (i := 0) rfl
              have f1 := hX4.cell (i := 1) rfl
              have g1 := hA4.cell (i := 1) rfl
              have f2 := hX4.cell (i := 2) rfl
              have g2 := hA4.cell (i := 2) rfl
              have f3 := hX4.cell (i := 3) rfl
              have g3 := hA4.cell (i := 3) rfl
              have f4 := hX4.cell (i := 4) rfl
              have g4 := hA4.cell (i := 4) rfl
              have f5 := hX4.cell (i := 5) rfl
              have g5 := hA4.cell (i := 5) rfl
              have f6 := hX4.cell (i := 6) rfl
              have g6 := hA4.cell (i := 6) rfl
              have f7 := hX4.cell (i := 7) rfl
              have g7 := hA4.cell (i := 7) rfl
              have htw := twinK_any (some ⟨gb, off, none⟩) 64 cw_11 (writeK zs k) w4 (H1.out.2.1.below hbb) (by omega)
              have H4 := Lib.hid (And.intro (H1.out.1.trans (hbb.mono H1.out.1.size)) (And.intro (H1.out.2.1.below hbb) hw4))
              rw [hw4] at f0 g0 f1 g1 f2 g2 f3 g3 f4 g4 f5 g5 f6 g6 f7 g7 htw
              have HTW := Lib.hid htw
              clear hb3 hb34 hbb hX4 hA4 htw hw4 HC
              go_wp2_with fail
              refine HTW.out.mono ?_
              rintro e w5 ⟨ax, cx, rfl, hx, hb5⟩
              rw [← H4.out.2.2] at hb5 hx
              clear f0 g0 f1 g1 f2 g2 f3 g3 f4 g4 f5 g5 f6 g6 f7 g7 HTW
              obtain ⟨hxl, ⟨_, hx0, _⟩ | ⟨gx, sp, rfl, hgx, hblk, hsp, hcx, hmx⟩⟩ := hx
              · omega
              rw [writeK_len] at hcx
              have e0 := hblk.cell (i := m) (by rw [List.length_append, writeK_len]; omega)
              rw [List.getElem?_append_left (by rw [writeK_len]; omega)] at e0
              have f0 := hblk.free (m)
              have hby := (writeK_byt zs k).getD (m)
              obtain ⟨v, hv⟩ : ∃ v, v = bits .xor .u8 ((writeK zs k)[m]?.getD 0) cb := ⟨_, rfl⟩
              have hvb : 0 ≤ v ∧ v < 256 := by have := HC0.out.2; rw [hv]; exact xor_in hby.1 hby.2 (by omega) (by omega)
              obtain ⟨y, hy⟩ : ∃ y, y = (writeK zs k)[m]?.getD 0 := ⟨_, rfl⟩
              rw [← hy] at e0 hv
              obtain ⟨w6, hw6⟩ : ∃ w6, w6 = w5.setCell ⟨gx, m, none⟩ (.int .u8 v) := ⟨_, rfl⟩
              have hb6 : Below w4.heap.size w4 w6 := by rw [hw6]; exact hb5.setCell (p := ⟨gx, m, none⟩) hgx _
              have hblk6 : Blk w6 gx ((writeK zs k).set (m) v ++ sp) := by rw [hw6]; have h := hblk.set (m) v; rwa [List.set_append_left _ _ (by rw [writeK_len]; omega)] at h
              have hx6 : Reads w6 (some ⟨gx, 0, none⟩) 64 ((writeK zs k).set (m) v) := by have h := hblk6.reads 0 64 (by simp [writeK_len]); rwa [List.drop_zero, List.take_left' (by rw [List.length_set, writeK_len])] at h
              have hxb : Byt ((writeK zs k).set (m) v) := (writeK_byt zs k).set _ hvb.1 hvb.2
              have hB6 := H4.out.1.trans (hb6.mono H4.out.1.size)
              have hk1 := KR p len cap zs (some ⟨gx, 0, none⟩) 64 cx ((writeK zs k).set (m) v) w6 (HR.out.1.below hB6) HR.out.2.1 (by omega) HR.out.2.2.1 hx6 hxb (by omega) (by omega) hmx (HT.out.below hB6 HT.out.lt)
              have hE1 : cb ≠ 0 → (readK zs ((writeK zs k).set (m) v)).2 = 10 := by have := HC0.out.2; intro h; rw [hv, hy, HM.out]; exact readK_xor hi32 (by omega) (by omega) h
              obtain ⟨K1, hK1⟩ : ∃ K1, K1 = (readK zs ((writeK zs k).set (m) v)).1 := ⟨_, rfl⟩
              obtain ⟨E1, hE1'⟩ : ∃ E1, E1 = (readK zs ((writeK zs k).set (m) v)).2 := ⟨_, rfl⟩
              rw [← hK1, ← hE1'] at hk1
              rw [← hE1'] at hE1
              unfold KV.val at hk1
              rw [hw6] at hk1
              have HC := Lib.hid hk1
              have H6 := Lib.hid (And.intro hB6 (And.intro (H4.out.2.1.below hb6) hw6))
              have HE1 := Lib.hid hE1
              have HV := Lib.hid hvb
              clear hk1 hE1 hK1 hE1' hx6 hxb hB6 hb6 hblk6 hw6 hblk hsp hgx hxl hb5 hmx hcx H4 hy hby hvb
              subst hv
              have hwc := HWC.out.1
              have hi := HWC.out.2.1
              have hwm := HWC.out.2.2.1
              go_wp2_with fail
              clear hwc hi hwm
              refine HC.out.mono ?_
              rintro e w7 ⟨rfl, hb7⟩
              rw [← H6.out.2.2] at hb7
              clear e0 f0 HC
              obtain ⟨w8, hw8⟩ : ∃ w', w' = w7.alloc (.cells #[.int .i64 K1.born, .int .u32 K1.own, .int .u32 K1.peer, .int .u32 K1.otsn, .int .u32 K1.ptsn, .int .u32 K1.rwnd, .int .u16 K1.out, .int .u16 K1.inn] 26) := ⟨_, rfl⟩
              have hbn : Below w7.heap.size w7 w8 := by rw [hw8]; exact (Below.refl _ _).alloc (Nat.le_refl _) _
              have hbb := hb7.trans (hbn.mono hb7.size)
              have hB8 := H6.out.1.trans (hbb.mono H6.out.1.size)
              have htw := twinK_any (some ⟨gb, off, none⟩) 64 cw_11 (writeK zs k) w8 (H6.out.2.1.below hbb) (by omega)
              have H8 := Lib.hid (And.intro hB8 (And.intro (H6.out.2.1.below hbb) hw8))
              rw [hw8] at htw
              have HTW := Lib.hid htw
              clear hb7 hbn hbb hB8 htw hw8 H6
              go_wp2_with fail
              refine HTW.out.mono ?_
              rintro e w9 ⟨ay, cy, rfl, hy, hb9⟩
              rw [← H8.out.2.2] at hb9 hy
              have hB9 := H8.out.1.trans (hb9.mono H8.out.1.size)
              obtain ⟨a10, c10, w10, happ, H10⟩ := hy.appends hb9.size q len2 cap2 ys (HR2.out.1.below hB9) (by omega)
              have hb10 := hb9.trans H10.out.2
              have hB10 := H8.out.1.trans (hb10.mono H8.out.1.size)
              have hk1 := KR p len cap zs a10 (64 + len2) c10 (writeK zs k ++ ys) w10 (HR.out.1.below hB10) HR.out.2.1 (by omega) HR.out.2.2.1 H10.out.1.reads ((writeK_byt _ _).append HR2.out.2.1) (by omega) H10.out.1.le H10.out.1.max (HT.out.below hB10 HT.out.lt)
              have hyl := HR2.out.1.1
              have hE2 : len2 ≠ 0 → (readK zs (writeK zs k ++ ys)).2 = 7 := fun h => readK_other (by rw [List.length_append, writeK_len]; omega)
              obtain ⟨K2, hK2⟩ : ∃ K2, K2 = (readK zs (writeK zs k ++ ys)).1 := ⟨_, rfl⟩
              obtain ⟨E2, hE2'⟩ : ∃ E2, E2 = (readK zs (writeK zs k ++ ys)).2 := ⟨_, rfl⟩
              rw [← hK2, ← hE2'] at hk1
              rw [← hE2'] at hE2
              unfold KV.val at hk1
              have HC := Lib.hid hk1
              have HE2 := Lib.hid hE2
              have H11 := Lib.hid (And.intro hB10 (H8.out.2.1.below hb10))
              clear hk1 hE2 hK2 hE2' hyl hb10 hB10 H10 hb9 hB9 hy HTW
              go_wp2_with (at_builtin; refine wpList_append_run rfl _ _ _ rfl _ _ _ _ rfl rfl happ ?_)
              refine HC.out.mono ?_
              rintro e w11 ⟨rfl, hb11⟩
              clear HC happ H8
              obtain ⟨w12, hw12⟩ : ∃ w', w' = w11.alloc (.cells #[.int .i64 K2.born, .int .u32 K2.own, .int .u32 K2.peer, .int .u32 K2.otsn, .int .u32 K2.ptsn, .int .u32 K2.rwnd, .int .u16 K2.out, .int .u16 K2.inn] 26) := ⟨_, rfl⟩
              have hbn : Below w11.heap.size w11 w12 := by rw [hw12]; exact (Below.refl _ _).alloc (Nat.le_refl _) _
              have hbb := hb11.trans (hbn.mono hb11.size)
              have hB12 := H11.out.1.trans (hbb.mono H11.out.1.size)
              have hpj := (H11.out.2.below hbb).part 0 j (by omega)
              rw [List.drop_zero, Nat.add_zero] at hpj
              have hk1 := KR p len cap zs (some ⟨gb, off, none⟩) j cw_11 ((writeK zs k).take j) w12 (HR.out.1.below hB12) HR.out.2.1 (by omega) HR.out.2.2.1 hpj ((writeK_byt _ _).take j) (by omega) (by omega) H1.out.2.2.2 (HT.out.below hB12 HT.out.lt)
              obtain ⟨K3, hK3⟩ : ∃ K3, K3 = (readK zs ((writeK zs k).take j)).1 := ⟨_, rfl⟩
              rw [← hK3, readK_other (by rw [List.length_take, writeK_len]; omega)] at hk1
              unfold KV.val at hk1
              have H12 := Lib.hid (And.intro hB12 hw12)
              rw [hw12] at hk1
              have HC := Lib.hid hk1
              clear hk1 hK3 hpj hB12 hbb hbn hb11 H11 hw12
              have hwc := HWC.out.1
              have hj := HWC.out.2.2.2
              go_wp2_with fail
              clear hwc hj
              refine HC.out.mono ?_
              rintro e w13 ⟨rfl, hb13⟩
              rw [← H12.out.2] at hb13
              clear HC
              obtain ⟨w14, hw14⟩ : ∃ w', w' = w13.alloc (.cells #[.int .i64 K3.born, .int .u32 K3.own, .int .u32 K3.peer, .int .u32 K3.otsn, .int .u32 K3.ptsn, .int .u32 K3.rwnd, .int .u16 K3.out, .int .u16 K3.inn] 26) := ⟨_, rfl⟩
              have hbn : Below w13.heap.size w13 w14 := by rw [hw14]; exact (Below.refl _ _).alloc (Nat.le_refl _) _
              have hbb := hb13.trans (hbn.mono hb13.size)
              have hB14 := H12.out.1.trans (hbb.mono H12.out.1.size)
              have hwk := WK w14 (HT.out.below hB14 HT.out.lt)
              have H14 := Lib.hid (And.intro hB14 hw14)
              rw [hw14] at hwk
              have HC := Lib.hid hwk
              clear hwk hb13 hbn hbb hB14 hw14 H12
              by_cases hcb : cb = 0
              · have hcd : (cb != 0) = false := by simp [hcb]
                by_cases hl2 : len2 = 0
                · have hld : ¬ (0 : Int) < len2 := by omega
                  go_wp2_with fail
                  refine HC.out.mono ?_
                  rintro e w15 ⟨rfl, hb15⟩
                  rw [← H14.out.2] at hb15
                  have HW := Lib.hid (HB0.out.trans ((H14.out.1.trans (hb15.mono H14.out.1.size)).mono HB0.out.size))
                  clear hb15
                  go_wp2
                  go_ret
                  exact ⟨rfl, HW.out⟩
                · have hld : (0 : Int) < len2 := by omega
                  have hF := HE2.out hl2
                  go_wp2_with fail
                  refine HC.out.mono ?_
                  rintro e w15 ⟨rfl, hb15⟩
                  rw [← H14.out.2] at hb15
                  have HW := Lib.hid (HB0.out.trans ((H14.out.1.trans (hb15.mono H14.out.1.size)).mono HB0.out.size))
                  clear hb15
                  go_wp2
                  go_ret
                  exact ⟨rfl, HW.out⟩
              · have hcd : (cb != 0) = true := by simp [hcb]
                have hE := HE1.out hcb
                by_cases hl2 : len2 = 0
                · have hld : ¬ (0 : Int) < len2 := by omega
                  go_wp2_with fail
                  refine HC.out.mono ?_
                  rintro e w15 ⟨rfl, hb15⟩
                  rw [← H14.out.2] at hb15
                  have HW := Lib.hid (HB0.out.trans ((H14.out.1.trans (hb15.mono H14.out.1.size)).mono HB0.out.size))
                  clear hb15
                  go_wp2
                  go_ret
                  exact ⟨rfl, HW.out⟩
                · have hld : (0 : Int) < len2 := by omega
                  have hF := HE2.out hl2
                  go_wp2_with fail
                  refine HC.out.mono ?_
                  rintro e w15 ⟨rfl, hb15⟩
                  rw [← H14.out.2] at hb15
                  have HW := Lib.hid (HB0.out.trans ((H14.out.1.trans (hb15.mono H14.out.1.size)).mono HB0.out.size))
                  clear hb15
                  go_wp2
                  go_ret
                  exact ⟨rfl, HW.out⟩
            · have q4 : (inn != 0) = true := by simp [p4]
              have hmay : mayK k = true := by rw [HKV.out.1]; simp [mayK] <;> omega
              rw [if_pos hmay] at hk1
              simp only [HKV.out.2] at hk1
              have HC := Lib.hid hk1
              clear hk1 hmay
              go_wp2_with fail
              refine HC.out.mono ?_
              rintro e w3 ⟨rfl, hb3⟩
              obtain ⟨w4, hw4⟩ : ∃ w4, w4 = w3.alloc (.cells #[.int .i64 born, .int .u32 own, .int .u32 peer, .int .u32 otsn, .int .u32 ptsn, .int .u32 rwnd, .int .u16 out, .int .u16 inn] 26) := ⟨_, rfl⟩
              have hb34 : Below w3.heap.size w3 w4 := by rw [hw4]; exact (Below.refl _ _).alloc (Nat.le_refl _) _
              have hbb := hb3.trans (hb34.mono hb3.size)
              have hX4 := H1.out.2.2.1.keep hbb
              have hA4 : Arr w4 w3.heap.size 26 [.int .i64 born, .int .u32 own, .int .u32 peer, .int .u32 otsn, .int .u32 ptsn, .int .u32 rwnd, .int .u16 out, .int .u16 inn] := by rw [hw4]; exact arr_new _ _ _
              have f0 := hX4.cell (i := 0) rfl
              have g0 := hA4.cell (i := 0) rfl
              have f1 := hX4.cell (i := 1) rfl
              have g1 := hA4.cell (i := 1) rfl
              have f2 := hX4.cell (i := 2) rfl
              have g2 := hA4.cell (i := 2) rfl
              have f3 := hX4.cell (i := 3) rfl
              have g3 := hA4.cell (i := 3) rfl
              have f4 := hX4.cell (i := 4) rfl
              have g4 := hA4.cell (i := 4) rfl
              have f5 := hX4.cell (i := 5) rfl
              have g5 := hA4.cell (i := 5) rfl
              have f6 := hX4.cell (i := 6) rfl
              have g6 := hA4.cell (i := 6) rfl
              have f7 := hX4.cell (i := 7) rfl
              have g7 := hA4.cell (i := 7) rfl
              have htw := twinK_any (some ⟨gb, off, none⟩) 64 cw_11 (writeK zs k) w4 (H1.out.2.1.below hbb) (by omega)
              have H4 := Lib.hid (And.intro (H1.out.1.trans (hbb.mono H1.out.1.size)) (And.intro (H1.out.2.1.below hbb) hw4))
              rw [hw4] at f0 g0 f1 g1 f2 g2 f3 g3 f4 g4 f5 g5 f6 g6 f7 g7 htw
              have HTW := Lib.hid htw
              clear hb3 hb34 hbb hX4 hA4 htw hw4 HC
              go_wp2_with fail
              refine HTW.out.mono ?_
              rintro e w5 ⟨ax, cx, rfl, hx, hb5⟩
              rw [← H4.out.2.2] at hb5 hx
              clear f0 g0 f1 g1 f2 g2 f3 g3 f4 g4 f5 g5 f6 g6 f7 g7 HTW
              obtain ⟨hxl, ⟨_, hx0, _⟩ | ⟨gx, sp, rfl, hgx, hblk, hsp, hcx, hmx⟩⟩ := hx
              · omega
              rw [writeK_len] at hcx
              have e0 := hblk.cell (i := m) (by rw [List.length_append, writeK_len]; omega)
              rw [List.getElem?_append_left (by rw [writeK_len]; omega)] at e0
              have f0 := hblk.free (m)
              have hby := (writeK_byt zs k).getD (m)
              obtain ⟨v, hv⟩ : ∃ v, v = bits .xor .u8 ((writeK zs k)[m]?.getD 0) cb := ⟨_, rfl⟩
              have hvb : 0 ≤ v ∧ v < 256 := by have := HC0.out.2; rw [hv]; exact xor_in hby.1 hby.2 (by omega) (by omega)
              obtain ⟨y, hy⟩ : ∃ y, y = (writeK zs k)[m]?.getD 0 := ⟨_, rfl⟩
              rw [← hy] at e0 hv
              obtain ⟨w6, hw6⟩ : ∃ w6, w6 = w5.setCell ⟨gx, m, none⟩ (.int .u8 v) := ⟨_, rfl⟩
              have hb6 : Below w4.heap.size w4 w6 := by rw [hw6]; exact hb5.setCell (p := ⟨gx, m, none⟩) hgx _
              have hblk6 : Blk w6 gx ((writeK zs k).set (m) v ++ sp) := by rw [hw6]; have h := hblk.set (m) v; rwa [List.set_append_left _ _ (by rw [writeK_len]; omega)] at h
              have hx6 : Reads w6 (some ⟨gx, 0, none⟩) 64 ((writeK zs k).set (m) v) := by have h := hblk6.reads 0 64 (by simp [writeK_len]); rwa [List.drop_zero, List.take_left' (by rw [List.length_set, writeK_len])] at h
              have hxb : Byt ((writeK zs k).set (m) v) := (writeK_byt zs k).set _ hvb.1 hvb.2
              have hB6 := H4.out.1.trans (hb6.mono H4.out.1.size)
              have hk1 := KR p len cap zs (some ⟨gx, 0, none⟩) 64 cx ((writeK zs k).set (m) v) w6 (HR.out.1.below hB6) HR.out.2.1 (by omega) HR.out.2.2.1 hx6 hxb (by omega) (by omega) hmx (HT.out.below hB6 HT.out.lt)
              have hE1 : cb ≠ 0 → (readK zs ((writeK zs k).set (m) v)).2 = 10 := by have := HC0.out.2; intro h; rw [hv, hy, HM.out]; exact readK_xor hi32 (by omega) (by omega) h
              obtain ⟨K1, hK1⟩ : ∃ K1, K1 = (readK zs ((writeK zs k).set (m) v)).1 := ⟨_, rfl⟩
              obtain ⟨E1, hE1'⟩ : ∃ E1, E1 = (readK zs ((writeK zs k).set (m) v)).2 := ⟨_, rfl⟩
              rw [← hK1, ← hE1'] at hk1
              rw [← hE1'] at hE1
              unfold KV.val at hk1
              rw [hw6] at hk1
              have HC := Lib.hid hk1
              have H6 := Lib.hid (And.intro hB6 (And.intro (H4.out.2.1.below hb6) hw6))
              have HE1 := Lib.hid hE1
              have HV := Lib.hid hvb
              clear hk1 hE1 hK1 hE1' hx6 hxb hB6 hb6 hblk6 hw6 hblk hsp hgx hxl hb5 hmx hcx H4 hy hby hvb
              subst hv
              have hwc := HWC.out.1
              have hi := HWC.out.2.1
              have hwm := HWC.out.2.2.1
              go_wp2_with fail
              clear hwc hi hwm
              refine HC.out.mono ?_
              rintro e w7 ⟨rfl, hb7⟩
              rw [← H6.out.2.2] at hb7
              clear e0 f0 HC
              obtain ⟨w8, hw8⟩ : ∃ w', w' = w7.alloc (.cells #[.int .i64 K1.born, .int .u32 K1.own, .int .u32 K1.peer, .int .u32 K1.otsn, .int .u32 K1.ptsn, .int .u32 K1.rwnd, .int .u16 K1.out, .int .u16 K1.inn] 26) := ⟨_, rfl⟩
              have hbn : Below w7.heap.size w7 w8 := by rw [hw8]; exact (Below.refl _ _).alloc (Nat.le_refl _) _
              have hbb := hb7.trans (hbn.mono hb7.size)
              have hB8 := H6.out.1.trans (hbb.mono H6.out.1.size)
              have htw := twinK_any (some ⟨gb, off, none⟩) 64 cw_11 (writeK zs k) w8 (H6.out.2.1.below hbb) (by omega)
              have H8 := Lib.hid (And.intro hB8 (And.intro (H6.out.2.1.below hbb) hw8))
              rw [hw8] at htw
              have HTW := Lib.hid htw
              clear hb7 hbn hbb hB8 htw hw8 H6
              go_wp2_with fail
              refine HTW.out.mono ?_
              rintro e w9 ⟨ay, cy, rfl, hy, hb9⟩
              rw [← H8.out.2.2] at hb9 hy
              have hB9 := H8.out.1.trans (hb9.mono H8.out.1.size)
              obtain ⟨a10, c10, w10, happ, H10⟩ := hy.appends hb9.size q len2 cap2 ys (HR2.out.1.below hB9) (by omega)
              have hb10 := hb9.trans H10.out.2
              have hB10 := H8.out.1.trans (hb10.mono H8.out.1.size)
              have hk1 := KR p len cap zs a10 (64 + len2) c10 (writeK zs k ++ ys) w10 (HR.out.1.below hB10) HR.out.2.1 (by omega) HR.out.2.2.1 H10.out.1.reads ((writeK_byt _ _).append HR2.out.2.1) (by omega) H10.out.1.le H10.out.1.max (HT.out.below hB10 HT.out.lt)
              have hyl := HR2.out.1.1
              have hE2 : len2 ≠ 0 → (readK zs (writeK zs k ++ ys)).2 = 7 := fun h => readK_other (by rw [List.length_append, writeK_len]; omega)
              obtain ⟨K2, hK2⟩ : ∃ K2, K2 = (readK zs (writeK zs k ++ ys)).1 := ⟨_, rfl⟩
              obtain ⟨E2, hE2'⟩ : ∃ E2, E2 = (readK zs (writeK zs k ++ ys)).2 := ⟨_, rfl⟩
              rw [← hK2, ← hE2'] at hk1
              rw [← hE2'] at hE2
              unfold KV.val at hk1
              have HC := Lib.hid hk1
              have HE2 := Lib.hid hE2
              have H11 := Lib.hid (And.intro hB10 (H8.out.2.1.below hb10))
              clear hk1 hE2 hK2 hE2' hyl hb10 hB10 H10 hb9 hB9 hy HTW
              go_wp2_with (at_builtin; refine wpList_append_run rfl _ _ _ rfl _ _ _ _ rfl rfl happ ?_)
              refine HC.out.mono ?_
              rintro e w11 ⟨rfl, hb11⟩
              clear HC happ H8
              obtain ⟨w12, hw12⟩ : ∃ w', w' = w11.alloc (.cells #[.int .i64 K2.born, .int .u32 K2.own, .int .u32 K2.peer, .int .u32 K2.otsn, .int .u32 K2.ptsn, .int .u32 K2.rwnd, .int .u16 K2.out, .int .u16 K2.inn] 26) := ⟨_, rfl⟩
              have hbn : Below w11.heap.size w11 w12 := by rw [hw12]; exact (Below.refl _ _).alloc (Nat.le_refl _) _
              have hbb := hb11.trans (hbn.mono hb11.size)
              have hB12 := H11.out.1.trans (hbb.mono H11.out.1.size)
              have hpj := (H11.out.2.below hbb).part 0 j (by omega)
              rw [List.drop_zero, Nat.add_zero] at hpj
              have hk1 := KR p len cap zs (some ⟨gb, off, none⟩) j cw_11 ((writeK zs k).take j) w12 (HR.out.1.below hB12) HR.out.2.1 (by omega) HR.out.2.2.1 hpj ((writeK_byt _ _).take j) (by omega) (by omega) H1.out.2.2.2 (HT.out.below hB12 HT.out.lt)
              obtain ⟨K3, hK3⟩ : ∃ K3, K3 = (readK zs ((writeK zs k).take j)).1 := ⟨_, rfl⟩
              rw [← hK3, readK_other (by rw [List.length_take, writeK_len]; omega)] at hk1
              unfold KV.val at hk1
              have H12 := Lib.hid (And.intro hB12 hw12)
              rw [hw12] at hk1
              have HC := Lib.hid hk1
              clear hk1 hK3 hpj hB12 hbb hbn hb11 H11 hw12
              have hwc := HWC.out.1
              have hj := HWC.out.2.2.2
              go_wp2_with fail
              clear hwc hj
              refine HC.out.mono ?_
              rintro e w13 ⟨rfl, hb13⟩
              rw [← H12.out.2] at hb13
              clear HC
              obtain ⟨w14, hw14⟩ : ∃ w', w' = w13.alloc (.cells #[.int .i64 K3.born, .int .u32 K3.own, .int .u32 K3.peer, .int .u32 K3.otsn, .int .u32 K3.ptsn, .int .u32 K3.rwnd, .int .u16 K3.out, .int .u16 K3.inn] 26) := ⟨_, rfl⟩
              have hbn : Below w13.heap.size w13 w14 := by rw [hw14]; exact (Below.refl _ _).alloc (Nat.le_refl _) _
              have hbb := hb13.trans (hbn.mono hb13.size)
              have hB14 := H12.out.1.trans (hbb.mono H12.out.1.size)
              have hwk := WK w14 (HT.out.below hB14 HT.out.lt)
              have H14 := Lib.hid (And.intro hB14 hw14)
              rw [hw14] at hwk
              have HC := Lib.hid hwk
              clear hwk hb13 hbn hbb hB14 hw14 H12
              by_cases hcb : cb = 0
              · have hcd : (cb != 0) = false := by simp [hcb]
                by_cases hl2 : len2 = 0
                · have hld : ¬ (0 : Int) < len2 := by omega
                  go_wp2_with fail
                  refine HC.out.mono ?_
                  rintro e w15 ⟨rfl, hb15⟩
                  rw [← H14.out.2] at hb15
                  have HW := Lib.hid (HB0.out.trans ((H14.out.1.trans (hb15.mono H14.out.1.size)).mono HB0.out.size))
                  clear hb15
                  go_wp2
                  go_ret
                  exact ⟨rfl, HW.out⟩
                · have hld : (0 : Int) < len2 := by omega
                  have hF := HE2.out hl2
                  go_wp2_with fail
                  refine HC.out.mono ?_
                  rintro e w15 ⟨rfl, hb15⟩
                  rw [← H14.out.2] at hb15
                  have HW := Lib.hid (HB0.out.trans ((H14.out.1.trans (hb15.mono H14.out.1.size)).mono HB0.out.size))
                  clear hb15
                  go_wp2
                  go_ret
                  exact ⟨rfl, HW.out⟩
              · have hcd : (cb != 0) = true := by simp [hcb]
                have hE := HE1.out hcb
                by_cases hl2 : len2 = 0
                · have hld : ¬ (0 : Int) < len2 := by omega
                  go_wp2_with fail
                  refine HC.out.mono ?_
                  rintro e w15 ⟨rfl, hb15⟩
                  rw [← H14.out.2] at hb15
                  have HW := Lib.hid (HB0.out.trans ((H14.out.1.trans (hb15.mono H14.out.1.size)).mono HB0.out.size))
                  clear hb15
                  go_wp2
                  go_ret
                  exact ⟨rfl, HW.out⟩
                · have hld : (0 : Int) < len2 := by omega
                  have hF := HE2.out hl2
                  go_wp2_with fail
                  refine HC.out.mono ?_
                  rintro e w15 ⟨rfl, hb15⟩
                  rw [← H14.out.2] at hb15
                  have HW := Lib.hid (HB0.out.trans ((H14.out.1.trans (hb15.mono H14.out.1.size)).mono HB0.out.size))
                  clear hb15
                  go_wp2
                  go_ret
                  exact ⟨rfl, HW.out⟩
    · have q0 : decide (0 ≤ born) = false := decide_eq_false p0
      have hmay : mayK k = false := by rw [HKV.out.1]; simp [mayK] <;> omega
      rw [if_neg (by rw [hmay]; decide)] at hk1
      simp only [show noK.val = .agg #[.int .i64 0, .int .u32 0, .int .u32 0, .int .u32 0, .int .u32 0, .int .u32 0, .int .u16 0, .int .u16 0] from rfl] at hk1
      have HC := Lib.hid hk1
      clear hk1 hmay
      go_wp2_with fail
      refine HC.out.mono ?_
      rintro e w3 ⟨rfl, hb3⟩
      obtain ⟨w4, hw4⟩ : ∃ w4, w4 = w3.alloc (.cells #[.int .i64 0, .int .u32 0, .int .u32 0, .int .u32 0, .int .u32 0, .int .u32 0, .int .u16 0, .int .u16 0] 26) := ⟨_, rfl⟩
      have hb34 : Below w3.heap.size w3 w4 := by rw [hw4]; exact (Below.refl _ _).alloc (Nat.le_refl _) _
      have hbb := hb3.trans (hb34.mono hb3.size)
      have hX4 := H1.out.2.2.1.keep hbb
      have hA4 : Arr w4 w3.heap.size 26 [.int .i64 0, .int .u32 0, .int .u32 0, .int .u32 0, .int .u32 0, .int .u32 0, .int .u16 0, .int .u16 0] := by rw [hw4]; exact arr_new _ _ _
      have f0 := hX4.cell (i := 0) rfl
      have g0 := hA4.cell (i := 0) rfl
      have f1 := hX4.cell (i := 1) rfl
      have g1 := hA4.cell (i := 1) rfl
      have f2 := hX4.cell (i := 2) rfl
      have g2 := hA4.cell (i := 2) rfl
      have f3 := hX4.cell (i := 3) rfl
      have g3 := hA4.cell (i := 3) rfl
      have f4 := hX4.cell (i := 4) rfl
      have g4 := hA4.cell (i := 4) rfl
      have f5 := hX4.cell (i := 5) rfl
      have g5 := hA4.cell (i := 5) rfl
      have f6 := hX4.cell (i := 6) rfl
      have g6 := hA4.cell (i := 6) rfl
      have f7 := hX4.cell (i := 7) rfl
      have g7 := hA4.cell (i := 7) rfl
      have htw := twinK_any (some ⟨gb, off, none⟩) 64 cw_11 (writeK zs k) w4 (H1.out.2.1.below hbb) (by omega)
      have H4 := Lib.hid (And.intro (H1.out.1.trans (hbb.mono H1.out.1.size)) (And.intro (H1.out.2.1.below hbb) hw4))
      rw [hw4] at f0 g0 f1 g1 f2 g2 f3 g3 f4 g4 f5 g5 f6 g6 f7 g7 htw
      have HTW := Lib.hid htw
      clear hb3 hb34 hbb hX4 hA4 htw hw4 HC
      go_wp2_with fail
      refine HTW.out.mono ?_
      rintro e w5 ⟨ax, cx, rfl, hx, hb5⟩
      rw [← H4.out.2.2] at hb5 hx
      clear f0 g0 f1 g1 f2 g2 f3 g3 f4 g4 f5 g5 f6 g6 f7 g7 HTW
      obtain ⟨hxl, ⟨_, hx0, _⟩ | ⟨gx, sp, rfl, hgx, hblk, hsp, hcx, hmx⟩⟩ := hx
      · omega
      rw [writeK_len] at hcx
      have e0 := hblk.cell (i := m) (by rw [List.length_append, writeK_len]; omega)
      rw [List.getElem?_append_left (by rw [writeK_len]; omega)] at e0
      have f0 := hblk.free (m)
      have hby := (writeK_byt zs k).getD (m)
      obtain ⟨v, hv⟩ : ∃ v, v = bits .xor .u8 ((writeK zs k)[m]?.getD 0) cb := ⟨_, rfl⟩
      have hvb : 0 ≤ v ∧ v < 256 := by have := HC0.out.2; rw [hv]; exact xor_in hby.1 hby.2 (by omega) (by omega)
      obtain ⟨y, hy⟩ : ∃ y, y = (writeK zs k)[m]?.getD 0 := ⟨_, rfl⟩
      rw [← hy] at e0 hv
      obtain ⟨w6, hw6⟩ : ∃ w6, w6 = w5.setCell ⟨gx, m, none⟩ (.int .u8 v) := ⟨_, rfl⟩
      have hb6 : Below w4.heap.size w4 w6 := by rw [hw6]; exact hb5.setCell (p := ⟨gx, m, none⟩) hgx _
      have hblk6 : Blk w6 gx ((writeK zs k).set (m) v ++ sp) := by rw [hw6]; have h := hblk.set (m) v; rwa [List.set_append_left _ _ (by rw [writeK_len]; omega)] at h
      have hx6 : Reads w6 (some ⟨gx, 0, none⟩) 64 ((writeK zs k).set (m) v) := by have h := hblk6.reads 0 64 (by simp [writeK_len]); rwa [List.drop_zero, List.take_left' (by rw [List.length_set, writeK_len])] at h
      have hxb : Byt ((writeK zs k).set (m) v) := (writeK_byt zs k).set _ hvb.1 hvb.2
      have hB6 := H4.out.1.trans (hb6.mono H4.out.1.size)
      have hk1 := KR p len cap zs (some ⟨gx, 0, none⟩) 64 cx ((writeK zs k).set (m) v) w6 (HR.out.1.below hB6) HR.out.2.1 (by omega) HR.out.2.2.1 hx6 hxb (by omega) (by omega) hmx (HT.out.below hB6 HT.out.lt)
      have hE1 : cb ≠ 0 → (readK zs ((writeK zs k).set (m) v)).2 = 10 := by have := HC0.out.2; intro h; rw [hv, hy, HM.out]; exact readK_xor hi32 (by omega) (by omega) h
      obtain ⟨K1, hK1⟩ : ∃ K1, K1 = (readK zs ((writeK zs k).set (m) v)).1 := ⟨_, rfl⟩
      obtain ⟨E1, hE1'⟩ : ∃ E1, E1 = (readK zs ((writeK zs k).set (m) v)).2 := ⟨_, rfl⟩
      rw [← hK1, ← hE1'] at hk1
      rw [← hE1'] at hE1
      unfold KV.val at hk1
      rw [hw6] at hk1
      have HC := Lib.hid hk1
      have H6 := Lib.hid (And.intro hB6 (And.intro (H4.out.2.1.below hb6) hw6))
      have HE1 := Lib.hid hE1
      have HV := Lib.hid hvb
      clear hk1 hE1 hK1 hE1' hx6 hxb hB6 hb6 hblk6 hw6 hblk hsp hgx hxl hb5 hmx hcx H4 hy hby hvb
      subst hv
      have hwc := HWC.out.1
      have hi := HWC.out.2.1
      have hwm := HWC.out.2.2.1
      go_wp2_with fail
      clear hwc hi hwm
      refine HC.out.mono ?_
      rintro e w7 ⟨rfl, hb7⟩
      rw [← H6.out.2.2] at hb7
      clear e0 f0 HC
      obtain ⟨w8, hw8⟩ : ∃ w', w' = w7.alloc (.cells #[.int .i64 K1.born, .int .u32 K1.own, .int .u32 K1.peer, .int .u32 K1.otsn, .int .u32 K1.ptsn, .int .u32 K1.rwnd, .int .u16 K1.out, .int .u16 K1.inn] 26) := ⟨_, rfl⟩
      have hbn : Below w7.heap.size w7 w8 := by rw [hw8]; exact (Below.refl _ _).alloc (Nat.le_refl _) _
      have hbb := hb7.trans (hbn.mono hb7.size)
      have hB8 := H6.out.1.trans (hbb.mono H6.out.1.size)
      have htw := twinK_any (some ⟨gb, off, none⟩) 64 cw_11 (writeK zs k) w8 (H6.out.2.1.below hbb) (by omega)
      have H8 := Lib.hid (And.intro hB8 (And.intro (H6.out.2.1.below hbb) hw8))
      rw [hw8] at htw
      have HTW := Lib.hid htw
      clear hb7 hbn hbb hB8 htw hw8 H6
      go_wp2_with fail
      refine HTW.out.mono ?_
      rintro e w9 ⟨ay, cy, rfl, hy, hb9⟩
      rw [← H8.out.2.2] at hb9 hy
      have hB9 := H8.out.1.trans (hb9.mono H8.out.1.size)
      obtain ⟨a10, c10, w10, happ, H10⟩ := hy.appends hb9.size q len2 cap2 ys (HR2.out.1.below hB9) (by omega)
      have hb10 := hb9.trans H10.out.2
      have hB10 := H8.out.1.trans (hb10.mono H8.out.1.size)
      have hk1 := KR p len cap zs a10 (64 + len2) c10 (writeK zs k ++ ys) w10 (HR.out.1.below hB10) HR.out.2.1 (by omega) HR.out.2.2.1 H10.out.1.reads ((writeK_byt _ _).append HR2.out.2.1) (by omega) H10.out.1.le H10.out.1.max (HT.out.below hB10 HT.out.lt)
      have hyl := HR2.out.1.1
      have hE2 : len2 ≠ 0 → (readK zs (writeK zs k ++ ys)).2 = 7 := fun h => readK_other (by rw [List.length_append, writeK_len]; omega)
      obtain ⟨K2, hK2⟩ : ∃ K2, K2 = (readK zs (writeK zs k ++ ys)).1 := ⟨_, rfl⟩
      obtain ⟨E2, hE2'⟩ : ∃ E2, E2 = (readK zs (writeK zs k ++ ys)).2 := ⟨_, rfl⟩
      rw [← hK2, ← hE2'] at hk1
      rw [← hE2'] at hE2
      unfold KV.val at hk1
      have HC := Lib.hid hk1
      have HE2 := Lib.hid hE2
      have H11 := Lib.hid (And.intro hB10 (H8.out.2.1.below hb10))
      clear hk1 hE2 hK2 hE2' hyl hb10 hB10 H10 hb9 hB9 hy HTW
      go_wp2_with (at_builtin; refine wpList_append_run rfl _ _ _ rfl _ _ _ _ rfl rfl happ ?_)
      refine HC.out.mono ?_
      rintro e w11 ⟨rfl, hb11⟩
      clear HC happ H8
      obtain ⟨w12, hw12⟩ : ∃ w', w' = w11.alloc (.cells #[.int .i64 K2.born, .int .u32 K2.own, .int .u32 K2.peer, .int .u32 K2.otsn, .int .u32 K2.ptsn, .int .u32 K2.rwnd, .int .u16 K2.out, .int .u16 K2.inn] 26) := ⟨_, rfl⟩
      have hbn : Below w11.heap.size w11 w12 := by rw [hw12]; exact (Below.refl _ _).alloc (Nat.le_refl _) _
      have hbb := hb11.trans (hbn.mono hb11.size)
      have hB12 := H11.out.1.trans (hbb.mono H11.out.1.size)
      have hpj := (H11.out.2.below hbb).part 0 j (by omega)
      rw [List.drop_zero, Nat.add_zero] at hpj
      have hk1 := KR p len cap zs (some ⟨gb, off, none⟩) j cw_11 ((writeK zs k).take j) w12 (HR.out.1.below hB12) HR.out.2.1 (by omega) HR.out.2.2.1 hpj ((writeK_byt _ _).take j) (by omega) (by omega) H1.out.2.2.2 (HT.out.below hB12 HT.out.lt)
      obtain ⟨K3, hK3⟩ : ∃ K3, K3 = (readK zs ((writeK zs k).take j)).1 := ⟨_, rfl⟩
      rw [← hK3, readK_other (by rw [List.length_take, writeK_len]; omega)] at hk1
      unfold KV.val at hk1
      have H12 := Lib.hid (And.intro hB12 hw12)
      rw [hw12] at hk1
      have HC := Lib.hid hk1
      clear hk1 hK3 hpj hB12 hbb hbn hb11 H11 hw12
      have hwc := HWC.out.1
      have hj := HWC.out.2.2.2
      go_wp2_with fail
      clear hwc hj
      refine HC.out.mono ?_
      rintro e w13 ⟨rfl, hb13⟩
      rw [← H12.out.2] at hb13
      clear HC
      obtain ⟨w14, hw14⟩ : ∃ w', w' = w13.alloc (.cells #[.int .i64 K3.born, .int .u32 K3.own, .int .u32 K3.peer, .int .u32 K3.otsn, .int .u32 K3.ptsn, .int .u32 K3.rwnd, .int .u16 K3.out, .int .u16 K3.inn] 26) := ⟨_, rfl⟩
      have hbn : Below w13.heap.size w13 w14 := by rw [hw14]; exact (Below.refl _ _).alloc (Nat.le_refl _) _
      have hbb := hb13.trans (hbn.mono hb13.size)
      have hB14 := H12.out.1.trans (hbb.mono H12.out.1.size)
      have hwk := WK w14 (HT.out.below hB14 HT.out.lt)
      have H14 := Lib.hid (And.intro hB14 hw14)
      rw [hw14] at hwk
      have HC := Lib.hid hwk
      clear hwk hb13 hbn hbb hB14 hw14 H12
      by_cases hcb : cb = 0
      · have hcd : (cb != 0) = false := by simp [hcb]
        by_cases hl2 : len2 = 0
        · have hld : ¬ (0 : Int) < len2 := by omega
          go_wp2_with fail
          refine HC.out.mono ?_
          rintro e w15 ⟨rfl, hb15⟩
          rw [← H14.out.2] at hb15
          have HW := Lib.hid (HB0.out.trans ((H14.out.1.trans (hb15.mono H14.out.1.size)).mono HB0.out.size))
          clear hb15
          go_wp2
          go_ret
          exact ⟨rfl, HW.out⟩
        · have hld : (0 : Int) < len2 := by omega
          have hF := HE2.out hl2
          go_wp2_with fail
          refine HC.out.mono ?_
          rintro e w15 ⟨rfl, hb15⟩
          rw [← H14.out.2] at hb15
          have HW := Lib.hid (HB0.out.trans ((H14.out.1.trans (hb15.mono H14.out.1.size)).mono HB0.out.size))
          clear hb15
          go_wp2
          go_ret
          exact ⟨rfl, HW.out⟩
      · have hcd : (cb != 0) = true := by simp [hcb]
        have hE := HE1.out hcb
        by_cases hl2 : len2 = 0
        · have hld : ¬ (0 : Int) < len2 := by omega
          go_wp2_with fail
          refine HC.out.mono ?_
          rintro e w15 ⟨rfl, hb15⟩
          rw [← H14.out.2] at hb15
          have HW := Lib.hid (HB0.out.trans ((H14.out.1.trans (hb15.mono H14.out.1.size)).mono HB0.out.size))
          clear hb15
          go_wp2
          go_ret
          exact ⟨rfl, HW.out⟩
        · have hld : (0 : Int) < len2 := by omega
          have hF := HE2.out hl2
          go_wp2_with fail
          refine HC.out.mono ?_
          rintro e w15 ⟨rfl, hb15⟩
          rw [← H14.out.2] at hb15
          have HW := Lib.hid (HB0.out.trans ((H14.out.1.trans (hb15.mono H14.out.1.size)).mono HB0.out.size))
          clear hb15
          go_wp2
          go_ret
          exact ⟨rfl, HW.out⟩
end Go.Proofs.YtcmaclaiholpfaaDoor
