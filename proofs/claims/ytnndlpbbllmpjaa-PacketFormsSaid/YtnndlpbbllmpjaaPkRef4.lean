/-
  Stage 10: the reference's Read. Written by genpk4.py.
-/
import Derived.Test.YtnndlpbbllmpjaaPkSpec
import Derived.Test.YtnndlpbbllmpjaaMgB
import Derived.Test.YtnndlpbbllmpjaaMgA
import Derived.Deep.DeepCutAuto
namespace Go.Proofs.Ytnndlpbbllmpjaa
open Go.RowKit
set_option linter.unusedVariables false
set_option linter.unusedSimpArgs false

theorem reads_from {w : World} {a : Option Addr} {n c : Nat} {zs : List Int} (h : Reads w a n zs) {lo : Nat} (hl : lo ≤ n) (hc : n ≤ c) : Reads w (cutA a lo c) (n - lo) (zs.drop lo) := by
  have h2 := reads_cut h lo n hl (Nat.le_refl _) hc
  rwa [List.take_of_length_le (by rw [List.length_drop, h.1]; exact Nat.le_refl _)] at h2
theorem bodyP_count {L : List PC} (h : ∀ c ∈ L, c.zs.length ≤ 65531) : 4 * L.length ≤ (bodyP L).length := by
  induction L with
  | nil => simp
  | cons c L ih =>
    have := ih (fun d hd => h d (by simp [hd]))
    rw [bodyP_cons, List.length_append, encOf_size (h c (by simp)), List.length_cons]
    unfold sizeC
    omega
theorem take_more {b : List Int} {at' m : Nat} {L ys : List Int} (h12 : 12 ≤ at') (hb : (b.drop 12).take (at' - 12) = L) (hp : ys <+: b.drop at') (hm : m = ys.length) : (b.drop 12).take (at' + m - 12) = L ++ ys := by
  obtain ⟨r, hr⟩ := hp
  rw [show at' + m - 12 = (at' - 12) + m by omega, List.take_add, hb, List.drop_drop, show 12 + (at' - 12) = at' by omega, ← hr, hm, List.take_left']
  rfl
theorem pre_bytes {k f : Int} {body zs : List Int} (h : encC k f body <+: zs) (hl : body.length ≤ 65531) (hz : Byt zs) : (0 ≤ k ∧ k < 256) ∧ (0 ≤ f ∧ f < 256) ∧ Byt body := by
  obtain ⟨h4, _, _, h0, h1, h2, _⟩ := pre_parts h hl
  refine ⟨?_, ?_, ?_⟩
  · rw [← h0]; exact hz.getD 0
  · rw [← h1]; exact hz.getD 1
  · rw [← h2]; exact (hz.drop 4).take _

set_option maxRecDepth 100000 in
set_option maxHeartbeats 1600000 in
theorem rreadP_any (aq : Option Addr) (n c : Nat) (b : List Int) (w : World) (hr : Reads w aq n b) (hz : Byt b) (hc : n ≤ c) (hn : n ≤ 1048576) :
    Calls Try.prog 23 #[.slice aq n c] w fun e w' => RdP b w w' e ∧ Below w.heap.size w w' := by
  obtain ⟨w0, hw0⟩ : ∃ w0, w.alloc (.cells #[.int .u32 0, .slice none 0 0] 25) = w0 := ⟨_, rfl⟩
  have hb0 : Below w.heap.size w w0 := by rw [← hw0]; exact (Below.refl _ _).alloc (Nat.le_refl _) _
  have hZ0 : Arr w0 w.heap.size 25 [.int .u32 0, .slice none 0 0] := by rw [← hw0]; exact arr_new _ _ _
  have hbl : b.length = n := hr.1
  have HR := Lib.hid (And.intro hr hz)
  have HL := Lib.hid hbl
  have H0 := Lib.hid (And.intro hb0 hZ0)
  clear hr hz hb0 hZ0 hbl
  by_cases h12 : n < 12
  · have g12 : (n : Int) < 12 := by omega
    go_enter Try.func23, Try.ntmps23
    have hzf := H0.out.2
    have hbf := H0.out.1
    obtain ⟨w8, hw8⟩ : ∃ x, ((w0.setCell ⟨w.heap.size, 0, none⟩ (.int .u32 0)).setCell ⟨w.heap.size, 1, none⟩ (.slice none 0 0)) = x := ⟨_, rfl⟩
    have hA8 : Arr _ w.heap.size 25 [.int .u32 0, .slice none 0 0] := ((hzf.set 0 (.int .u32 0)).set 1 (.slice none 0 0))
    have hB8 := ((hbf.setCell (p := ⟨w.heap.size, 0, none⟩) (by simp) (.int .u32 0)).setCell (p := ⟨w.heap.size, 1, none⟩) (by simp) (.slice none 0 0))
    rw [hw8] at hA8 hB8
    have fs0 := hzf.free 0
    have fs1 := hzf.free 1
    have yy0 := hzf.cell (i := 0) rfl
    have yy1 := hzf.cell (i := 1) rfl
    have zz0 := hA8.cell (i := 0) rfl
    have zz1 := hA8.cell (i := 1) rfl
    have HE := Lib.hid hB8
    clear hA8 hB8 hzf hbf 
    go_wp2
    exact bodyPost_ret (by simp [results, Try.results23, go_sem, zz0, zz1] <;> rfl) rfl ⟨.inl ⟨by rw [HL.out]; exact h12, rfl⟩, HE.out⟩
  have g12 : decide ((n : Int) < 12) = false := by simp; omega
  have HLE := Lib.hid (show 12 ≤ b.length by rw [HL.out]; omega)
  obtain ⟨T, hT⟩ : ∃ T, tagB b = T := ⟨_, rfl⟩
  obtain ⟨U, hU⟩ : ∃ U, sumB b = U := ⟨_, rfl⟩
  obtain ⟨lT, hT1⟩ : 0 ≤ T ∧ T < 4294967296 := hT ▸ tagB_in HR.out.2 HLE.out
  obtain ⟨lU, hU1⟩ : 0 ≤ U ∧ U < 4294967296 := hU ▸ sumB_in HR.out.2 HLE.out
  obtain ⟨X, hX⟩ : ∃ X : Int, ((ext 0 (zero4 b) : Nat) : Int) = X := ⟨_, rfl⟩
  obtain ⟨lX, hX1⟩ : 0 ≤ X ∧ X < 4294967296 := by have := ext_lt (s := 0) (zero4 b) (by decide); omega
  have hok : sumOk b = decide (X = U) := by unfold sumOk; rw [hX, hU]
  have HOK := Lib.hid hok
  have HT := Lib.hid hT
  have HU := Lib.hid hU
  have HX := Lib.hid hX
  clear hok
  have hg1 := getR_yes aq n c 8 4 b w0 (HR.out.1.below H0.out.1) HR.out.2 hc (by omega) rfl (by omega)
  rw [show num ((b.drop 8).take 4) = U from hU] at hg1
  have HG1 := Lib.hid hg1
  clear hg1 hT hU hX
  go_enter Try.func23, Try.ntmps23
  go_wp2_with fail
  refine HG1.out.mono ?_
  rintro e w1 ⟨rfl, hb1⟩
  have HB1 := Lib.hid (H0.out.1.trans (hb1.mono H0.out.1.size))
  have HZ1 := Lib.hid (H0.out.2.keep hb1)
  have HCB := Lib.hid (copyBytes_pos aq n c b w1 (HR.out.1.below HB1.out) (by omega) (by omega))
  clear hb1 H0 HG1 hw0
  go_wp2_with fail
  refine HCB.out.mono ?_
  rintro e w2 ⟨rfl, hb2, hk2⟩
  have HB2 := Lib.hid (HB1.out.trans (hb2.mono HB1.out.size))
  have HZ2 := Lib.hid (HZ1.out.keep hb2)
  have HK2 := Lib.hid hk2
  have hgw : w.heap.size < w1.heap.size := HZ1.out.lt
  generalize w1.heap.size = g at *
  clear hb2 hk2 HCB HB1 HZ1
  go_wp2_with fail
  go_loopw [7] (fun ii wr => ∃ j : Nat, 8 ≤ j ∧ j ≤ 12 ∧ ii = .int .i64 (j : Int) ∧ Blk wr g (zeroTo b j) ∧ Below w.heap.size w wr ∧ Arr wr w.heap.size 25 [.int .u32 0, .slice none 0 0]) (fun ii _ => 12 - (intOf ii).toNat)
  case atStart => exact ⟨8, Nat.le_refl _, by omega, rfl, by rw [zeroTo_8]; exact HK2.out, HB2.out, HZ2.out⟩
  case round =>
    obtain ⟨j, hj8, hj, rfl, hk, hbw, hzw⟩ := hrel
    by_cases hjn : j < 12
    · have hzl : (zeroTo b j).length = n := by rw [zeroTo_len hj8 (by have := HLE.out; omega)]; exact HL.out
      have e0 := hk.cell (i := j) (by omega)
      have f0 := hk.free j
      have hk' : Blk (wr.setCell ⟨g, j, none⟩ (.int .u8 0)) g (zeroTo b (j + 1)) := by rw [← zeroTo_set hj8 (by have := HLE.out; omega)]; exact hk.set j 0
      have hb' : Below w.heap.size w (wr.setCell ⟨g, j, none⟩ (.int .u8 0)) := hbw.setCell (p := ⟨g, j, none⟩) (by show w.heap.size ≤ g; omega) _
      have hz' : Arr (wr.setCell ⟨g, j, none⟩ (.int .u8 0)) w.heap.size 25 [.int .u32 0, .slice none 0 0] := (Below.heap_setCell wr ⟨g, j, none⟩ (.int .u8 0) _ (by simp; omega)).trans hzw
      have HN := Lib.hid (And.intro hk' (And.intro hb' hz'))
      have hj0 : (0 : Int) ≤ (j : Int) := by omega
      have hj1 : (j : Int) < (n : Int) := by omega
      have hj12 : (j : Int) < 12 := by omega
      clear hk hbw hzw hk' hb' hz' hzl
      go_wp2
      exact ⟨⟨j + 1, by omega, by omega, congrArg (Value.int .i64) (by omega), HN.out.1, HN.out.2.1, HN.out.2.2⟩, by simp [intOf]; omega⟩
    have hj12 : decide ((j : Int) < 12) = false := by simp; omega
    have e12 : zeroTo b j = zero4 b := by unfold zero4; rw [show j = 12 by omega]
    rw [e12] at hk
    have HS := Lib.hid (sum_ref (some ⟨g, 0, none⟩) n n (zero4 b) wr (hk.readsAll n (by unfold zero4; rw [zeroTo_len (by omega) HLE.out]; exact HL.out.symm)) (zeroTo_byt HR.out.2 12) (by omega))
    have hs := HS.out
    rw [HX.out] at hs
    have HS2 := Lib.hid hs
    have HB3 := Lib.hid hbw
    have HZ3 := Lib.hid hzw
    clear hk hbw hzw HS hs e12 HB2 HZ2 HK2
    go_wp2_with fail
    refine HS2.out.mono ?_
    rintro e w' ⟨rfl, rfl⟩
    clear HS2
    by_cases hs : X = U
    · skip
      have hsn : (X != U) = false := by simpa using hs
      have HSO := Lib.hid (show sumOk b = true by rw [HOK.out]; exact decide_eq_true hs)
      clear hs HOK
      have hg2 := getR_yes aq n c 4 4 b wr (HR.out.1.below HB3.out) HR.out.2 hc (by omega) rfl (by omega)
      rw [show num ((b.drop 4).take 4) = T from HT.out] at hg2
      have HG2 := Lib.hid hg2
      clear hg2
      go_wp2_with fail
      refine HG2.out.mono ?_
      rintro e w4 ⟨rfl, hb4⟩
      have HB4 := Lib.hid (HB3.out.trans (hb4.mono HB3.out.size))
      have HZ4 := Lib.hid (HZ3.out.keep hb4)
      clear hb4 HG2 HB3 HZ3
      have hb5 : Below w4.heap.size w4 (w4.alloc (.cells #[.int .u32 T, .slice none 0 0] 25)) := (Below.refl _ _).alloc (Nat.le_refl _) _
      have hp5 : Arr (w4.alloc (.cells #[.int .u32 T, .slice none 0 0] 25)) w4.heap.size 25 [.int .u32 T, .slice none 0 0] := arr_new _ _ _
      have HB5 := Lib.hid (HB4.out.trans (hb5.mono HB4.out.size))
      have HZ5 := Lib.hid (HZ4.out.keep hb5)
      have HP5 := Lib.hid hp5
      have hsz5 : (w4.alloc (.cells #[.int .u32 T, .slice none 0 0] 25)).heap.size = w4.heap.size + 1 := by simp
      have hgp : w.heap.size < w4.heap.size := HZ4.out.lt
      go_upto_region 13 with fail
      generalize (w4.alloc (.cells #[.int .u32 T, .slice none 0 0] 25)) = w5 at *
      generalize w4.heap.size = gp at *
      clear hb5 hp5 HB4 HZ4
      go_wp2_with fail
      go_loopw [11] (fun ii wr => ∃ (at' : Nat) (L : List Ck) (a2 : Option Addr) (c2 : Nat), ii = .int .i64 (at' : Int) ∧ 12 ≤ at' ∧ at' ≤ n ∧ at' = 12 + (bodyP (pcs L)).length ∧ (b.drop 12).take (at' - 12) = bodyP (pcs L) ∧ (∀ c ∈ pcs L, c.zs.length ≤ 65531) ∧ RowC 0 (gp + 1) wr a2 L.length c2 L ∧ Arr wr gp 25 [.int .u32 T, .slice a2 L.length c2] ∧ Arr wr w.heap.size 25 [.int .u32 0, .slice none 0 0] ∧ Below w.heap.size w wr ∧ gp < wr.heap.size) (fun ii _ => n - (intOf ii).toNat)
      case atStart => exact ⟨12, [], none, 0, rfl, Nat.le_refl _, by omega, rfl, by simp [pcs, bodyP_nil], fun c hc => by simp [pcs] at hc, RowC.nil _ _ (by omega) _, HP5.out, HZ5.out, HB5.out, by omega⟩
      case round =>
        obtain ⟨at', L, a2, c2, rfl, ha12, han, hal, htk, hle, hrow, hP, hZw, hbw, hgpw⟩ := hrel
        have HF := Lib.hid (And.intro hal (And.intro htk hle))
        have HROW := Lib.hid hrow
        have HPB := Lib.hid hP
        have HZB := Lib.hid hZw
        have HBW := Lib.hid hbw
        have hcnt : 4 * L.length ≤ n := by have h1 := bodyP_count hle; rw [pcs_len] at h1; omega
        clear hal htk hle hrow hP hZw hbw HP5 HZ5 HB5
        by_cases hat : at' < n
        · skip
          have hai : (at' : Int) < (n : Int) := by omega
          have hcut := fun W => cut_l aq n c at' (by omega) W
          have HRD := Lib.hid (rread_any (cutA aq at' c) (n - at') (c - at') (b.drop at') wr (reads_from (HR.out.1.below HBW.out) (by omega) hc) (HR.out.2.drop at') (by omega) (by omega))
          go_wp2_with fail
          refine HRD.out.mono ?_
          rintro e w6 ⟨hok, hb6⟩
          have HB6 := Lib.hid (HBW.out.trans (hb6.mono HBW.out.size))
          have HZ6 := Lib.hid (HZB.out.keep hb6)
          have HP6 := Lib.hid (HPB.out.keep hb6)
          have HROW6 := Lib.hid (HROW.out.keep hb6)
          have hs6 : wr.heap.size ≤ w6.heap.size := hb6.size
          clear hb6 HRD HROW HPB HZB HBW hcut
          rcases hok with ⟨k, f, body, a7, hbl, hpre, rfl, hrb⟩ | ⟨hno, rfl⟩
          · skip
            obtain ⟨m, hm⟩ : ∃ m : Nat, up4 (4 + body.length) = m := ⟨_, rfl⟩
            obtain ⟨bl, hbl2⟩ : ∃ bl, body.length = bl := ⟨_, rfl⟩
            have hmn : at' + m ≤ n := by have h3 := (pre_parts hpre hbl).2.2.1; rw [hm, List.length_drop, HL.out] at h3; omega
            have hm4 : 4 ≤ m := by have := up4_ge (4 + body.length); omega
            obtain ⟨hkb, hfb, hbb⟩ := pre_bytes hpre hbl (HR.out.2.drop at')
            have hrk : CkOk w6 ⟨k, f, a7, bl, bl, body⟩ := ⟨hkb, hfb, by rw [← hbl2]; exact hrb.reads, hbb, Nat.le_refl _, by show bl ≤ maxLen; unfold maxLen; omega⟩
            have hnx : (b.drop 12).take (at' + m - 12) = bodyP (pcs (L ++ [⟨k, f, a7, bl, bl, body⟩])) ∧ at' + m = 12 + (bodyP (pcs (L ++ [⟨k, f, a7, bl, bl, body⟩]))).length ∧ (∀ c ∈ pcs (L ++ [⟨k, f, a7, bl, bl, body⟩]), c.zs.length ≤ 65531) := by
              have e1 : pcs (L ++ [⟨k, f, a7, bl, bl, body⟩]) = pcs L ++ [⟨k, f, body⟩] := by simp [pcs, Ck.pc]
              have e2 : bodyP (pcs L ++ [⟨k, f, body⟩]) = bodyP (pcs L) ++ encC k f body := by rw [bodyP_app, bodyP_cons, bodyP_nil, List.append_nil, encOf_yes hbl]
              rw [e1, e2]
              refine ⟨take_more ha12 HF.out.2.1 hpre (by rw [encC_len]; exact hm.symm), ?_, ?_⟩
              · rw [List.length_append, encC_len, hm, HF.out.1]; omega
              · intro c hc'
                rcases List.mem_append.1 hc' with h | h
                · exact HF.out.2.2 c h
                · simp at h; subst h; exact hbl
            rw [hm, hbl2]
            have HNX := Lib.hid hnx
            have HRK := Lib.hid (And.intro hrk (show OffC 0 w6 ⟨k, f, a7, bl, bl, body⟩ from fun _ p hp => .inr (hrb.far p hp).2.2))
            clear hnx hrk hkb hfb hbb hrb hpre hm hbl
            have hb7 : Below w6.heap.size w6 (w6.alloc (.cells #[.int .u8 k, .int .u8 f, .slice a7 bl bl] 41)) := (Below.refl _ _).alloc (Nat.le_refl _) _
            have hs7 : (w6.alloc (.cells #[.int .u8 k, .int .u8 f, .slice a7 bl bl] 41)).heap.size = w6.heap.size + 1 := by simp
            have hb8 : Below (w6.alloc (.cells #[.int .u8 k, .int .u8 f, .slice a7 bl bl] 41)).heap.size (w6.alloc (.cells #[.int .u8 k, .int .u8 f, .slice a7 bl bl] 41)) ((w6.alloc (.cells #[.int .u8 k, .int .u8 f, .slice a7 bl bl] 41)).alloc (.cells #[.int .u8 k, .int .u8 f, .slice a7 bl bl] 41)) := (Below.refl _ _).alloc (Nat.le_refl _) _
            have hA8 : Arr ((w6.alloc (.cells #[.int .u8 k, .int .u8 f, .slice a7 bl bl] 41)).alloc (.cells #[.int .u8 k, .int .u8 f, .slice a7 bl bl] 41)) (w6.heap.size + 1) 41 [.int .u8 k, .int .u8 f, .slice a7 bl bl] := by rw [← hs7]; exact arr_new _ _ _
            have hb68 := hb7.trans (hb8.mono hb7.size)
            obtain ⟨a9, c9, W9, hrun, H9⟩ := (HROW6.out.keep hb68).add1 (Nat.le_trans (by omega) hb68.size) (by omega) (w6.heap.size + 1) ⟨k, f, a7, bl, bl, body⟩ hA8 (HRK.out.1.below hb68)
            have HRUN := Lib.hid hrun
            have hP8 := HP6.out.keep hb68
            have hP9 := grown_arr (HROW6.out.keep hb68).own H9.out.2 hP8 (by omega)
            have hZ9 := grown_arr (HROW6.out.keep hb68).own H9.out.2 (HZ6.out.keep hb68) (by omega)
            have hbel8 := HB6.out.trans (hb68.mono HB6.out.size)
            have hbel9 : Below w.heap.size w W9 := ⟨H9.out.2.os.trans hbel8.os, H9.out.2.tape.trans hbel8.tape, H9.out.2.output.trans hbel8.output, Nat.le_trans hbel8.size H9.out.2.size, fun q hq => (H9.out.2.block q (Nat.lt_of_lt_of_le hq hbel8.size) (fun e => by have := (World.ownsRow.lt (HROW6.out.keep hb68).own q e.symm).1; omega)).trans (hbel8.block q hq)⟩
            have hro9 := RowC.added (HROW6.out.keep hb68) (HRK.out.1.below hb68) (HRK.out.2.of (fun q cs hk => hb68.block q (Array.getElem?_eq_some_iff.1 hk).1)) H9.out.1 H9.out.2
            obtain ⟨w9, hw9⟩ : ∃ x, W9.setCell ⟨gp, 1, none⟩ (.slice a9 (L.length + 1) c9) = x := ⟨_, rfl⟩
            have hPf : Arr w9 gp 25 [.int .u32 T, .slice a9 (L.length + 1) c9] := by rw [← hw9]; exact hP9.set 1 _
            have hZf : Arr w9 w.heap.size 25 [.int .u32 0, .slice none 0 0] := by rw [← hw9]; exact (Below.heap_setCell W9 ⟨gp, 1, none⟩ _ _ (by simp; omega)).trans hZ9
            have hBf : Below w.heap.size w w9 := by rw [← hw9]; exact hbel9.setCell (p := ⟨gp, 1, none⟩) (by show w.heap.size ≤ gp; omega) _
            have hRf : RowC 0 (gp + 1) w9 a9 (L.length + 1) c9 (L ++ [⟨k, f, a7, bl, bl, body⟩]) := by rw [← hw9]; exact hro9.setAt hP9 (by decide) (by decide) (Nat.zero_le _) 1 _
            have hgf : gp < w9.heap.size := hPf.lt
            have HFIN := Lib.hid (And.intro hRf (And.intro hPf (And.intro hZf (And.intro hBf hgf))))
            have y0 := hP8.cell (i := 0) rfl
            have y1 := hP8.cell (i := 1) rfl
            have v0 := hP9.cell (i := 0) rfl
            have v1 := hP9.cell (i := 1) rfl
            have fr1 := hP9.free 1
            have p60 := HP6.out.cell (i := 0) rfl
            have p61 := HP6.out.cell (i := 1) rfl
            have p70 := (HP6.out.keep hb7).cell (i := 0) rfl
            have p71 := (HP6.out.keep hb7).cell (i := 1) rfl
            clear hb7 hs7 hb8 hA8 hb68 hrun H9 hP8 hP9 hZ9 hbel8 hbel9 hro9 hPf hZf hBf hRf hgf HROW6 HP6 HZ6 HB6 HRK
            go_wp2_with (at_builtin; refine wpList_append_run rfl _ _ _ rfl _ _ _ _ rfl rfl HRUN.out ?_)
            exact ⟨⟨at' + m, L ++ [⟨k, f, a7, bl, bl, body⟩], a9, c9, congrArg (Value.int .i64) (by omega), by omega, hmn, HNX.out.2.1, HNX.out.1, HNX.out.2.2, by rw [List.length_append]; exact HFIN.out.1, by rw [List.length_append]; exact HFIN.out.2.1, HFIN.out.2.2.1, HFIN.out.2.2.2.1, HFIN.out.2.2.2.2⟩, by simp [intOf]; omega⟩
          · unfold noChunk
            have HNO := Lib.hid hno
            clear hno
            have hb7 : Below w6.heap.size w6 (w6.alloc (.cells #[.int .u8 0, .int .u8 0, .slice none 0 0] 41)) := (Below.refl _ _).alloc (Nat.le_refl _) _
            have hZ7 := HZ6.out.keep hb7
            have hB7 := HB6.out.trans (hb7.mono HB6.out.size)
            have hzf := hZ7
            have hbf := hB7
            obtain ⟨w8, hw8⟩ : ∃ x, (((w6.alloc (.cells #[.int .u8 0, .int .u8 0, .slice none 0 0] 41)).setCell ⟨w.heap.size, 0, none⟩ (.int .u32 0)).setCell ⟨w.heap.size, 1, none⟩ (.slice none 0 0)) = x := ⟨_, rfl⟩
            have hA8 : Arr _ w.heap.size 25 [.int .u32 0, .slice none 0 0] := ((hzf.set 0 (.int .u32 0)).set 1 (.slice none 0 0))
            have hB8 := ((hbf.setCell (p := ⟨w.heap.size, 0, none⟩) (by simp) (.int .u32 0)).setCell (p := ⟨w.heap.size, 1, none⟩) (by simp) (.slice none 0 0))
            rw [hw8] at hA8 hB8
            have fs0 := hzf.free 0
            have fs1 := hzf.free 1
            have yy0 := hzf.cell (i := 0) rfl
            have yy1 := hzf.cell (i := 1) rfl
            have zz0 := hA8.cell (i := 0) rfl
            have zz1 := hA8.cell (i := 1) rfl
            have HE := Lib.hid hB8
            clear hA8 hB8 hzf hbf hb7 hZ7 hB7 HZ6 HB6 HP6 HROW6
            go_wp2
            exact bodyPost_ret (by simp [results, Try.results23, go_sem, zz0, zz1] <;> rfl) rfl ⟨.inr (.inr (.inl ⟨HLE.out, HSO.out, isP_stop HF.out.2.2 HF.out.1 (by rw [HL.out]; exact hat) HF.out.2.1 HNO.out, rfl⟩)), HE.out⟩
        have hai : decide ((at' : Int) < (n : Int)) = false := by simp; omega
        have hall : b.drop 12 = bodyP (pcs L) := by rw [← HF.out.2.1, List.take_of_length_le (by rw [List.length_drop, HL.out]; omega)]
        have HALL := Lib.hid hall
        have HMY := Lib.hid (rmay_any a2 L.length c2 L wr HROW.out.rows (by omega))
        have p1 := HPB.out.cell (i := 1) rfl
        have p0 := HPB.out.cell (i := 0) rfl
        clear hall
        cases hmay : mayB (pcs L) with
        | false =>
          rw [hmay] at HMY
          have HNP := Lib.hid (isP_all HF.out.2.2 HALL.out (fun h => by have h1 := h.1; rw [hmay] at h1; cases h1))
          clear hmay
          go_wp2_with fail
          refine HMY.out.mono ?_
          rintro e w' ⟨rfl, rfl⟩
          have hzf := HZB.out
          have hbf := HBW.out
          obtain ⟨w8, hw8⟩ : ∃ x, ((wr.setCell ⟨w.heap.size, 0, none⟩ (.int .u32 0)).setCell ⟨w.heap.size, 1, none⟩ (.slice none 0 0)) = x := ⟨_, rfl⟩
          have hA8 : Arr _ w.heap.size 25 [.int .u32 0, .slice none 0 0] := ((hzf.set 0 (.int .u32 0)).set 1 (.slice none 0 0))
          have hB8 := ((hbf.setCell (p := ⟨w.heap.size, 0, none⟩) (by simp) (.int .u32 0)).setCell (p := ⟨w.heap.size, 1, none⟩) (by simp) (.slice none 0 0))
          rw [hw8] at hA8 hB8
          have fs0 := hzf.free 0
          have fs1 := hzf.free 1
          have yy0 := hzf.cell (i := 0) rfl
          have yy1 := hzf.cell (i := 1) rfl
          have zz0 := hA8.cell (i := 0) rfl
          have zz1 := hA8.cell (i := 1) rfl
          have HE := Lib.hid hB8
          clear hA8 hB8 hzf hbf HMY
          go_wp2
          exact bodyPost_ret (by simp [results, Try.results23, go_sem, zz0, zz1] <;> rfl) rfl ⟨.inr (.inr (.inl ⟨HLE.out, HSO.out, HNP.out, rfl⟩)), HE.out⟩
        | true =>
          rw [hmay] at HMY
          have HM := Lib.hid hmay
          have hll : (laidP T U (pcs L)).length = n := by rw [laidP_len', ← HALL.out, List.length_drop, HL.out]; omega
          have hld := rlaid_any T U a2 L.length c2 L wr HROW.out.rows (by omega) lT hT1 lU hU1 (by omega)
          rw [hll] at hld
          have HLD := Lib.hid hld
          have HLL := Lib.hid hll
          clear hmay hll hld
          go_wp2_with fail
          refine HMY.out.mono ?_
          rintro e w' ⟨rfl, rfl⟩
          clear HMY
          go_wp2_with fail
          refine HLD.out.mono ?_
          rintro e w7 ⟨a8, c8, rfl, hb7, hr8⟩
          have HB7 := Lib.hid (HBW.out.trans (hb7.mono HBW.out.size))
          have HZ7 := Lib.hid (HZB.out.keep hb7)
          have HP7 := Lib.hid (HPB.out.keep hb7)
          have HR7 := Lib.hid (HROW.out.keep hb7)
          have HEQ := Lib.hid (eqBytes_any a8 aq n c8 c n (laidP T U (pcs L)) b w7 hr8.reads (HR.out.1.below HB7.out) (laidP_byt (pcs_ok HROW.out.rows)) HR.out.2 (by omega) (by omega))
          clear hb7 hr8 HLD p0 p1 HBW HZB HPB HROW
          go_wp2_with fail
          refine HEQ.out.mono ?_
          rintro e w8' ⟨rfl, hb8, _⟩
          have HB8 := Lib.hid (HB7.out.trans (hb8.mono HB7.out.size))
          have HZ8 := Lib.hid (HZ7.out.keep hb8)
          have HP8 := Lib.hid (HP7.out.keep hb8)
          have HR8 := Lib.hid (HR7.out.keep hb8)
          clear hb8 HEQ HB7 HZ7 HP7 HR7
          by_cases heq : laidP T U (pcs L) = b
          · rw [decide_eq_true heq]
            have HIS := Lib.hid (show IsP b (pcs L) from ⟨HM.out, by rw [HT.out, HU.out]; exact heq.symm⟩)
            clear heq
            have p0 := HP8.out.cell (i := 0) rfl
            have p1 := HP8.out.cell (i := 1) rfl
            have hzf := HZ8.out
            have hbf := HB8.out
            obtain ⟨w8, hw8⟩ : ∃ x, ((w8'.setCell ⟨w.heap.size, 0, none⟩ (.int .u32 T)).setCell ⟨w.heap.size, 1, none⟩ (.slice a2 L.length c2)) = x := ⟨_, rfl⟩
            have hA8 : Arr _ w.heap.size 25 [.int .u32 T, .slice a2 L.length c2] := ((hzf.set 0 (.int .u32 T)).set 1 (.slice a2 L.length c2))
            have hB8 := ((hbf.setCell (p := ⟨w.heap.size, 0, none⟩) (by simp) (.int .u32 T)).setCell (p := ⟨w.heap.size, 1, none⟩) (by simp) (.slice a2 L.length c2))
            rw [hw8] at hA8 hB8
            have hRe := ((HR8.out.setAt HZ8.out (by decide) (by decide) (Nat.zero_le _) 0 (.int .u32 T)).setAt (HZ8.out.set 0 (.int .u32 T)) (by decide) (by decide) (Nat.zero_le _) 1 (.slice a2 L.length c2)).rows
            rw [hw8] at hRe
            have HRE := Lib.hid hRe
            clear hRe
            have fs0 := hzf.free 0
            have fs1 := hzf.free 1
            have yy0 := hzf.cell (i := 0) rfl
            have yy1 := hzf.cell (i := 1) rfl
            have zz0 := hA8.cell (i := 0) rfl
            have zz1 := hA8.cell (i := 1) rfl
            have HE := Lib.hid hB8
            clear hA8 hB8 hzf hbf 
            go_wp2
            exact bodyPost_ret (by simp [results, Try.results23, go_sem, zz0, zz1] <;> rfl) rfl ⟨.inr (.inr (.inr ⟨HLE.out, HSO.out, L, a2, L.length, c2, HIS.out, by rw [HT.out], HRE.out, by omega⟩)), HE.out⟩
          · rw [decide_eq_false heq]
            have HNP := Lib.hid (isP_all HF.out.2.2 HALL.out (fun h => heq (by have h2 := h.2; rw [HT.out, HU.out] at h2; exact h2.symm)))
            clear heq
            have hzf := HZ8.out
            have hbf := HB8.out
            obtain ⟨w8, hw8⟩ : ∃ x, ((w8'.setCell ⟨w.heap.size, 0, none⟩ (.int .u32 0)).setCell ⟨w.heap.size, 1, none⟩ (.slice none 0 0)) = x := ⟨_, rfl⟩
            have hA8 : Arr _ w.heap.size 25 [.int .u32 0, .slice none 0 0] := ((hzf.set 0 (.int .u32 0)).set 1 (.slice none 0 0))
            have hB8 := ((hbf.setCell (p := ⟨w.heap.size, 0, none⟩) (by simp) (.int .u32 0)).setCell (p := ⟨w.heap.size, 1, none⟩) (by simp) (.slice none 0 0))
            rw [hw8] at hA8 hB8
            have fs0 := hzf.free 0
            have fs1 := hzf.free 1
            have yy0 := hzf.cell (i := 0) rfl
            have yy1 := hzf.cell (i := 1) rfl
            have zz0 := hA8.cell (i := 0) rfl
            have zz1 := hA8.cell (i := 1) rfl
            have HE := Lib.hid hB8
            clear hA8 hB8 hzf hbf 
            go_wp2
            exact bodyPost_ret (by simp [results, Try.results23, go_sem, zz0, zz1] <;> rfl) rfl ⟨.inr (.inr (.inl ⟨HLE.out, HSO.out, HNP.out, rfl⟩)), HE.out⟩
    · have hsn : (X != U) = true := by simpa using hs
      have HSO := Lib.hid (show sumOk b = false by rw [HOK.out]; exact decide_eq_false hs)
      clear hs HOK
      have hzf := HZ3.out
      have hbf := HB3.out
      obtain ⟨w8, hw8⟩ : ∃ x, ((wr.setCell ⟨w.heap.size, 0, none⟩ (.int .u32 0)).setCell ⟨w.heap.size, 1, none⟩ (.slice none 0 0)) = x := ⟨_, rfl⟩
      have hA8 : Arr _ w.heap.size 25 [.int .u32 0, .slice none 0 0] := ((hzf.set 0 (.int .u32 0)).set 1 (.slice none 0 0))
      have hB8 := ((hbf.setCell (p := ⟨w.heap.size, 0, none⟩) (by simp) (.int .u32 0)).setCell (p := ⟨w.heap.size, 1, none⟩) (by simp) (.slice none 0 0))
      rw [hw8] at hA8 hB8
      have fs0 := hzf.free 0
      have fs1 := hzf.free 1
      have yy0 := hzf.cell (i := 0) rfl
      have yy1 := hzf.cell (i := 1) rfl
      have zz0 := hA8.cell (i := 0) rfl
      have zz1 := hA8.cell (i := 1) rfl
      have HE := Lib.hid hB8
      clear hA8 hB8 hzf hbf 
      go_wp2
      exact bodyPost_ret (by simp [results, Try.results23, go_sem, zz0, zz1] <;> rfl) rfl ⟨.inr (.inl ⟨HLE.out, HSO.out, rfl⟩), HE.out⟩
end Go.Proofs.Ytnndlpbbllmpjaa
