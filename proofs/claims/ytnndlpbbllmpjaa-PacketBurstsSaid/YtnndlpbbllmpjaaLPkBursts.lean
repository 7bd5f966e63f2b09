/-
  The walk of PacketBursts. Written by genpkbursts.py.
-/
import Derived.Test.YtnndlpbbllmpjaaPkBurst
import Derived.Test.YtnndlpbbllmpjaaLPkBack
import Derived.Deep.DeepCutAuto
import Derived.Deep.CutRange
namespace Go.Proofs.Ytnndlpbbllmpjaa
open Go.RowKit
set_option linter.unusedVariables false
set_option linter.unusedSimpArgs false

theorem shr_u32 (z : Int) (h0 : 0 ≤ z) (h1 : z < 4294967296) (k : Nat) : 0 ≤ z / 2 ^ k ∧ z / 2 ^ k ≤ 4294967295 := by
  obtain ⟨a, rfl⟩ := Int.eq_ofNat_of_zero_le h0
  have h2 : a / 2 ^ k ≤ a := Nat.div_le_self _ _
  have e : ((a : Int)) / 2 ^ k = ((a / 2 ^ k : Nat) : Int) := by simp
  rw [e]
  generalize a / 2 ^ k = q at *
  omega
theorem flip_bit {y : Int} (h0 : 0 ≤ y) (h1 : y < 256) {j : Nat} (hj : j < 8) : 0 ≤ bits .xor .u8 y (2 ^ j % 256) ∧ bits .xor .u8 y (2 ^ j % 256) < 256 ∧ ∀ q, q < 8 → (bits .xor .u8 y (2 ^ j % 256)).toNat.testBit q = (y.toNat.testBit q != decide (q = j)) := by
  have hp : (2 : Int) ^ j % 256 = ((2 ^ j : Nat) : Int) := by
    match j, hj with
    | 0, _ | 1, _ | 2, _ | 3, _ | 4, _ | 5, _ | 6, _ | 7, _ => decide
  have hlt : 2 ^ j < 256 := by
    match j, hj with
    | 0, _ | 1, _ | 2, _ | 3, _ | 4, _ | 5, _ | 6, _ | 7, _ => decide
  rw [hp, u8_xor y _ h0 h1 (by omega) (by omega), Int.toNat_natCast]
  have hx : y.toNat ^^^ 2 ^ j < 256 := Nat.xor_lt_two_pow (n := 8) (by omega) (by omega)
  refine ⟨by omega, by omega, fun q hq => ?_⟩
  rw [Int.toNat_natCast, Nat.testBit_xor, Nat.testBit_two_pow]
  by_cases e : j = q
  · subst e; simp
  · have e' : ¬ q = j := fun h => e h.symm
    simp [e, e']
/-- Where a burst begins. -/
theorem from_of (bit : Int) {N : Nat} (hN : 0 < N) : ∃ fr : Nat, fr < N ∧ ((fr : Int) = if bit.tmod (N : Int) < 0 then bit.tmod (N : Int) + (N : Int) else bit.tmod (N : Int)) ∧ -(N : Int) < bit.tmod (N : Int) ∧ bit.tmod (N : Int) < (N : Int) := by
  have h1 := Int.tmod_lt_of_pos bit (b := (N : Int)) (by omega)
  have h2 : -(N : Int) < bit.tmod (N : Int) := by
    have h3 := Int.tmod_lt_of_pos (-bit) (b := (N : Int)) (by omega)
    rw [Int.neg_tmod] at h3
    omega
  by_cases hn : bit.tmod (N : Int) < 0
  · exact ⟨(bit.tmod (N : Int) + (N : Int)).toNat, by omega, by rw [if_pos hn]; omega, h2, h1⟩
  · exact ⟨(bit.tmod (N : Int)).toNat, by omega, by rw [if_neg hn]; omega, h2, h1⟩
set_option maxRecDepth 100000 in
set_option maxHeartbeats 3200000 in
theorem packetBursts_of (PW : PkWriteOk) (PR : PkReadOk) (PS : PkSizeOk) (WK : PkWorks) (tag : Int) (aq : Option Addr) (n c : Nat) (L : List Ck) (bit mask : Int) (w : World) (wt : (Lit.int .u32 tag).wf = true) (h : RowsCk w aq n c L) (wbit : (Lit.int .i64 bit).wf = true) (wmask : (Lit.int .u32 mask).wf = true) :
    Calls Try.prog 8 #[.agg #[.int .u32 tag, .slice aq n c, .int .i64 bit, .int .u32 mask]] w fun e w' => e = .returned (.bool true) ∧ Below w.heap.size w w' := by
  obtain ⟨t0, t1⟩ : 0 ≤ tag ∧ tag < 4294967296 := by have := wf_u32_in wt; omega
  obtain ⟨k0, k1⟩ : 0 ≤ mask ∧ mask < 4294967296 := by have := wf_u32_in wmask; omega
  skip
  clear wt wmask
  obtain ⟨w0, hw0⟩ : ∃ w0, w.alloc (.cells #[.int .u32 tag, .slice aq n c, .int .i64 bit, .int .u32 mask] 48) = w0 := ⟨_, rfl⟩
  have hb0 : Below w.heap.size w w0 := by rw [← hw0]; exact (Below.refl _ _).alloc (Nat.le_refl _) _
  have hA : Arr w0 w.heap.size 48 [.int .u32 tag, .slice aq n c, .int .i64 bit, .int .u32 mask] := by rw [← hw0]; exact arr_new _ _ _
  have c0 := hA.cell (i := 0) rfl
  have c1 := hA.cell (i := 1) rfl
  have HLG := Lib.hid (large_any tag aq n c L w0 (h.below hb0))
  have HB0 := Lib.hid hb0
  have HA0 := Lib.hid hA
  have HROW := Lib.hid h
  clear hb0 hA h
  go_enter Try.func8, Try.ntmps8
  go_wp2_with fail
  refine HLG.out.mono ?_
  rintro e w1 ⟨lg, rfl, hb1, hsm⟩
  have HB1 := Lib.hid (HB0.out.trans (hb1.mono HB0.out.size))
  have HA1 := Lib.hid (HA0.out.keep hb1)
  have HSM := Lib.hid hsm
  clear c0 c1 hb1 HB0 HA0 HLG hsm
  have c0 := HA1.out.cell (i := 0) rfl
  have c1 := HA1.out.cell (i := 1) rfl
  cases lg with
  | true =>
    go_wp2_with fail
    refine (WK w1).mono ?_
    rintro e w' ⟨rfl, hb'⟩
    have HF := Lib.hid (HB1.out.trans (hb'.mono HB1.out.size))
    clear hb'
    go_wp2
    go_ret
    exact ⟨rfl, HF.out⟩
  | false =>
  obtain ⟨hs1, hs2⟩ := HSM.out rfl
  have HSZ := Lib.hid (show sizeP (pcs L) ≤ 200000 ∧ 12 + (bodyP (pcs L)).length ≤ 200000 from ⟨by have h1 := sizeP_sum HROW.out.row; have h2 := HROW.out.hlen; omega, by have h1 := bodyP_sum HROW.out.row; have h2 := HROW.out.hlen; omega⟩)
  have HT := Lib.hid (And.intro t0 t1)
  have HWR := Lib.hid (PW tag aq n c L w1 (HROW.out.below HB1.out) (by omega) t0 t1 (by have := HSZ.out; omega))
  clear hs1 hs2 HSM t0 t1
  go_wp2_with fail
  refine HWR.out.mono ?_
  rintro e w2 ⟨aw, cw, rfl, hb2, hr2⟩
  have HB2 := Lib.hid (HB1.out.trans (hb2.mono HB1.out.size))
  have HA2 := Lib.hid (HA1.out.keep hb2)
  clear c0 c1 hb2 HWR
  cases hm : mayB (pcs L) with
  | false =>
    have hz0 : (writeP tag (pcs L)).length = 0 := by unfold writeP; rw [hm]; rfl
    rw [hz0]
    clear hr2 hm hz0
    go_wp2_with fail
    refine (WK w2).mono ?_
    rintro e w' ⟨rfl, hb'⟩
    have HF := Lib.hid (HB2.out.trans (hb'.mono HB2.out.size))
    clear hb'
    go_wp2
    go_ret
    exact ⟨rfl, HF.out⟩
  | true =>
  obtain ⟨g1, g2, g3, g4⟩ := written_is HT.out.1 HT.out.2 hm
  have hwl : (writeP tag (pcs L)).length ≤ 200000 := by unfold writeP; rw [if_pos hm]; have h1 := HSZ.out.2; unfold laidP; rw [List.length_append, headP_len]; omega
  have hby : Byt (writeP tag (pcs L)) := by unfold writeP; rw [if_pos hm]; exact laidP_byt (pcs_ok HROW.out)
  have HAG := Lib.hid (show ∀ w e w', RdPr (writeP tag (pcs L)) w w' e → ∃ M a c, pcs M = pcs L ∧ e = .returned (.tuple #[.agg #[.int .u32 tag, .slice a (pcs L).length c], .int .i64 0]) ∧ RowsCk w' a (pcs L).length c M from fun w e w' h => h.again HT.out.1 HT.out.2 hm)
  generalize writeP tag (pcs L) = b0 at *
  obtain ⟨N, hN⟩ : ∃ N, b0.length = N := ⟨_, rfl⟩
  rw [hN] at hr2 ⊢ hwl
  have HW := Lib.hid (And.intro g1 (And.intro g2 (And.intro hby hN)))
  have hN12 : 12 ≤ N := by omega
  clear g1 g2 g3 g4 hby hm hN
  obtain ⟨hl0, hcase⟩ := hr2
  obtain ⟨g, sp, rfl, hbg, hblk, hsp, hcc, hcm⟩ : ∃ g sp, aw = some ⟨g, 0, none⟩ ∧ w1.heap.size ≤ g ∧ Blk w2 g (b0 ++ sp) ∧ Byt sp ∧ b0.length + sp.length = cw ∧ cw ≤ maxLen := by
    rcases hcase with ⟨_, h0, _⟩ | h
    · omega
    · exact h
  have HG := Lib.hid (And.intro hbg (And.intro hblk (And.intro hsp hcc)))
  have hNi : (12 : Int) ≤ (N : Int) := by omega
  clear hl0 hcase hbg hblk hsp hcc hcm
  obtain ⟨fr, hfr, hfe, hf1, hf2⟩ := from_of bit (N := 8 * N) (by omega)
  have hcast : ((8 * N : Nat) : Int) = 8 * (N : Int) := by omega
  rw [hcast] at hfe hf1 hf2
  obtain ⟨tm, htm⟩ : ∃ tm, bit.tmod (8 * (N : Int)) = tm := ⟨_, rfl⟩
  rw [htm] at hfe hf1 hf2
  have HFE := Lib.hid hfe
  have c2 := HA2.out.cell (i := 2) rfl
  have c3 := HA2.out.cell (i := 3) rfl
  clear hcast hfe
  have hN0 : ((N : Int) == 0) = false := by simp; omega
  go_upto_if 32 with fail
  clear hN0
  go_cut [5] from 33 to 35 (fun s wx => s = .int .i64 (fr : Int) ∧ wx = w2)
  case first =>
    by_cases hneg : tm < 0
    · have hv := HFE.out
      rw [if_pos hneg] at hv
      have HV := Lib.hid hv
      clear hv
      go_wp2
      go_meet
      case rel => exact ⟨congrArg (Value.int .i64) (by have := HV.out; omega), rfl⟩
    · have hv := HFE.out
      rw [if_neg hneg] at hv
      have HV := Lib.hid hv
      clear hv
      go_wp2
      go_meet
      case rel => exact ⟨congrArg (Value.int .i64) (by have := HV.out; omega), rfl⟩
  case rest =>
  obtain ⟨rfl, hwc⟩ := hcut
  obtain rfl : w2 = wc := hwc.symm
  clear hf1 hf2 htm HFE c2 c3
  go_wp2_with fail
  go_loopw [6, 7, 8] (fun pv tv iv wr => ∃ (i part : Nat) (tu : Bool) (z : List Int), i ≤ 32 ∧ iv = .int .i64 (i : Int) ∧ pv = .int .i64 (part : Int) ∧ tv = .bool tu ∧ RowKit.Hid (Bst b0 z fr i part tu) ∧ Blk wr g (z ++ sp) ∧ Below w.heap.size w wr ∧ Arr wr w.heap.size 48 [.int .u32 tag, .slice aq n c, .int .i64 bit, .int .u32 mask]) (fun _ _ iv _ => 32 - (intOf iv).toNat)
  case atStart => exact ⟨0, 0, false, b0, by omega, rfl, rfl, rfl, Lib.hid (Bst.start HW.out.2.2.1 fr), HG.out.2.1, HB2.out, HA2.out⟩
  case round =>
    obtain ⟨i, part, tu, z, hi, rfl, rfl, rfl, hst, hblk, hbw, hA⟩ := hrel
    have c3 := hA.cell (i := 3) rfl
    have HK := Lib.hid (And.intro hblk (And.intro hbw hA))
    clear hblk hbw hA
    by_cases hi32 : i < 32
    · have hii : (i : Int) < 32 := by omega
      obtain ⟨K, hK⟩ : ∃ K : Nat, K = fr + i := ⟨_, rfl⟩
      have hKi : (fr : Int) + (i : Int) = (K : Int) := by omega
      have hKu : (K : Int) < 9000000 := by omega
      have HKK := Lib.hid hK
      clear hK
      obtain ⟨q0, q1⟩ := shr_u32 mask k0 k1 i
      cases hB : (bits .and .u32 (mask / 2 ^ i) 1 == 0) with
      | true =>
        go_wp2
        exact ⟨⟨i + 1, part, tu, z, by omega, congrArg (Value.int .i64) (by omega), rfl, rfl, Lib.hid hst.out.skip, HK.out.1, HK.out.2.1, HK.out.2.2⟩, by simp [intOf]; omega⟩
      | false =>
        by_cases hkn : K < 8 * N
        · have hkd : decide (8 * (N : Int) ≤ (K : Int)) = false := by simp; omega
          have hzl : z.length = N := by rw [hst.out.len, HW.out.2.2.2]
          have e0 := HK.out.1.cell (i := K / 8) (by rw [List.length_append, hzl]; omega)
          rw [List.getElem?_append_left (by omega)] at e0
          have f0 := HK.out.1.free (K / 8)
          have hk8 : K / 8 < N := by omega
          have HZL := Lib.hid hzl
          clear hzl
          by_cases h64 : K < 64
          · have d64 : decide ((64 : Int) ≤ (K : Int)) = false := by simp; omega
            have d96 : decide ((96 : Int) ≤ (K : Int)) = false := by simp; omega
            have HOW := Lib.hid (show ownP K = 1 by unfold ownP; rw [if_neg (by omega), if_neg (by omega)])
            by_cases hp0 : part = 0
            · have hpd : ((part : Int) != 0) = false := by simp; omega
              have hpo : part = 0 ∨ part = ownP K := .inl hp0
              obtain ⟨x0, x1, xb⟩ := flip_bit (hst.out.byt.getD (K / 8)).1 (hst.out.byt.getD (K / 8)).2 (j := K % 8) (by omega)
              have HST := Lib.hid (show Bst b0 (z.set (K / 8) (bits .xor .u8 (z[K / 8]?.getD 0) (2 ^ (K % 8) % 256))) fr (i + 1) 1 true from by have h := hst.out.flip HKK.out (by rw [HW.out.2.2.2]; exact hkn) hpo x0 x1 xb; rwa [HOW.out] at h)
              have HBK := Lib.hid (show Blk (wr.setCell ⟨g, K / 8, none⟩ (.int .u8 (bits .xor .u8 (z[K / 8]?.getD 0) (2 ^ (K % 8) % 256)))) g (z.set (K / 8) (bits .xor .u8 (z[K / 8]?.getD 0) (2 ^ (K % 8) % 256)) ++ sp) from by have h := HK.out.1.set (K / 8) (bits .xor .u8 (z[K / 8]?.getD 0) (2 ^ (K % 8) % 256)); rwa [List.set_append_left _ _ (by rw [HZL.out]; exact hk8)] at h)
              have HBB := Lib.hid (show Below w.heap.size w (wr.setCell ⟨g, K / 8, none⟩ (.int .u8 (bits .xor .u8 (z[K / 8]?.getD 0) (2 ^ (K % 8) % 256)))) from HK.out.2.1.setCell (p := ⟨g, K / 8, none⟩) (by show w.heap.size ≤ g; have := HG.out.1; have := HB1.out.size; omega) _)
              have HAR := Lib.hid (show Arr (wr.setCell ⟨g, K / 8, none⟩ (.int .u8 (bits .xor .u8 (z[K / 8]?.getD 0) (2 ^ (K % 8) % 256)))) w.heap.size 48 [.int .u32 tag, .slice aq n c, .int .i64 bit, .int .u32 mask] from (Below.heap_setCell wr ⟨g, K / 8, none⟩ _ _ (by show w.heap.size ≠ g; have := HG.out.1; have := HA1.out.lt; omega)).trans HK.out.2.2)
              clear x0 x1 xb hpo
              go_wp2
              exact ⟨⟨i + 1, 1, true, z.set (K / 8) (bits .xor .u8 (z[K / 8]?.getD 0) (2 ^ (K % 8) % 256)), by omega, congrArg (Value.int .i64) (by omega), rfl, rfl, HST, HBK.out, HBB.out, HAR.out⟩, by simp [intOf]; omega⟩
            · have hpd : ((part : Int) != 0) = true := by simp; omega
              by_cases hpe : part = 1
              · have hpq : ((1 : Int) != (part : Int)) = false := by simp; omega
                have hpo : part = 0 ∨ part = ownP K := .inr (by rw [hpe]; exact HOW.out.symm)
                obtain ⟨x0, x1, xb⟩ := flip_bit (hst.out.byt.getD (K / 8)).1 (hst.out.byt.getD (K / 8)).2 (j := K % 8) (by omega)
                have HST := Lib.hid (show Bst b0 (z.set (K / 8) (bits .xor .u8 (z[K / 8]?.getD 0) (2 ^ (K % 8) % 256))) fr (i + 1) 1 true from by have h := hst.out.flip HKK.out (by rw [HW.out.2.2.2]; exact hkn) hpo x0 x1 xb; rwa [HOW.out] at h)
                have HBK := Lib.hid (show Blk (wr.setCell ⟨g, K / 8, none⟩ (.int .u8 (bits .xor .u8 (z[K / 8]?.getD 0) (2 ^ (K % 8) % 256)))) g (z.set (K / 8) (bits .xor .u8 (z[K / 8]?.getD 0) (2 ^ (K % 8) % 256)) ++ sp) from by have h := HK.out.1.set (K / 8) (bits .xor .u8 (z[K / 8]?.getD 0) (2 ^ (K % 8) % 256)); rwa [List.set_append_left _ _ (by rw [HZL.out]; exact hk8)] at h)
                have HBB := Lib.hid (show Below w.heap.size w (wr.setCell ⟨g, K / 8, none⟩ (.int .u8 (bits .xor .u8 (z[K / 8]?.getD 0) (2 ^ (K % 8) % 256)))) from HK.out.2.1.setCell (p := ⟨g, K / 8, none⟩) (by show w.heap.size ≤ g; have := HG.out.1; have := HB1.out.size; omega) _)
                have HAR := Lib.hid (show Arr (wr.setCell ⟨g, K / 8, none⟩ (.int .u8 (bits .xor .u8 (z[K / 8]?.getD 0) (2 ^ (K % 8) % 256)))) w.heap.size 48 [.int .u32 tag, .slice aq n c, .int .i64 bit, .int .u32 mask] from (Below.heap_setCell wr ⟨g, K / 8, none⟩ _ _ (by show w.heap.size ≠ g; have := HG.out.1; have := HA1.out.lt; omega)).trans HK.out.2.2)
                clear x0 x1 xb hpo
                go_wp2
                exact ⟨⟨i + 1, 1, true, z.set (K / 8) (bits .xor .u8 (z[K / 8]?.getD 0) (2 ^ (K % 8) % 256)), by omega, congrArg (Value.int .i64) (by omega), rfl, rfl, HST, HBK.out, HBB.out, HAR.out⟩, by simp [intOf]; omega⟩
              · have hpq : ((1 : Int) != (part : Int)) = true := by simp; omega
                clear hp0 hpe
                go_wp2
                exact ⟨⟨i + 1, part, tu, z, by omega, congrArg (Value.int .i64) (by omega), rfl, rfl, Lib.hid hst.out.skip, HK.out.1, HK.out.2.1, HK.out.2.2⟩, by simp [intOf]; omega⟩
          · have d64 : decide ((64 : Int) ≤ (K : Int)) = true := by simp; omega
            by_cases h96 : K < 96
            · have d96 : decide ((96 : Int) ≤ (K : Int)) = false := by simp; omega
              have HOW := Lib.hid (show ownP K = 2 by unfold ownP; rw [if_neg (by omega), if_pos (by omega)])
              by_cases hp0 : part = 0
              · have hpd : ((part : Int) != 0) = false := by simp; omega
                have hpo : part = 0 ∨ part = ownP K := .inl hp0
                obtain ⟨x0, x1, xb⟩ := flip_bit (hst.out.byt.getD (K / 8)).1 (hst.out.byt.getD (K / 8)).2 (j := K % 8) (by omega)
                have HST := Lib.hid (show Bst b0 (z.set (K / 8) (bits .xor .u8 (z[K / 8]?.getD 0) (2 ^ (K % 8) % 256))) fr (i + 1) 2 true from by have h := hst.out.flip HKK.out (by rw [HW.out.2.2.2]; exact hkn) hpo x0 x1 xb; rwa [HOW.out] at h)
                have HBK := Lib.hid (show Blk (wr.setCell ⟨g, K / 8, none⟩ (.int .u8 (bits .xor .u8 (z[K / 8]?.getD 0) (2 ^ (K % 8) % 256)))) g (z.set (K / 8) (bits .xor .u8 (z[K / 8]?.getD 0) (2 ^ (K % 8) % 256)) ++ sp) from by have h := HK.out.1.set (K / 8) (bits .xor .u8 (z[K / 8]?.getD 0) (2 ^ (K % 8) % 256)); rwa [List.set_append_left _ _ (by rw [HZL.out]; exact hk8)] at h)
                have HBB := Lib.hid (show Below w.heap.size w (wr.setCell ⟨g, K / 8, none⟩ (.int .u8 (bits .xor .u8 (z[K / 8]?.getD 0) (2 ^ (K % 8) % 256)))) from HK.out.2.1.setCell (p := ⟨g, K / 8, none⟩) (by show w.heap.size ≤ g; have := HG.out.1; have := HB1.out.size; omega) _)
                have HAR := Lib.hid (show Arr (wr.setCell ⟨g, K / 8, none⟩ (.int .u8 (bits .xor .u8 (z[K / 8]?.getD 0) (2 ^ (K % 8) % 256)))) w.heap.size 48 [.int .u32 tag, .slice aq n c, .int .i64 bit, .int .u32 mask] from (Below.heap_setCell wr ⟨g, K / 8, none⟩ _ _ (by show w.heap.size ≠ g; have := HG.out.1; have := HA1.out.lt; omega)).trans HK.out.2.2)
                clear x0 x1 xb hpo
                go_wp2
                exact ⟨⟨i + 1, 2, true, z.set (K / 8) (bits .xor .u8 (z[K / 8]?.getD 0) (2 ^ (K % 8) % 256)), by omega, congrArg (Value.int .i64) (by omega), rfl, rfl, HST, HBK.out, HBB.out, HAR.out⟩, by simp [intOf]; omega⟩
              · have hpd : ((part : Int) != 0) = true := by simp; omega
                by_cases hpe : part = 2
                · have hpq : ((2 : Int) != (part : Int)) = false := by simp; omega
                  have hpo : part = 0 ∨ part = ownP K := .inr (by rw [hpe]; exact HOW.out.symm)
                  obtain ⟨x0, x1, xb⟩ := flip_bit (hst.out.byt.getD (K / 8)).1 (hst.out.byt.getD (K / 8)).2 (j := K % 8) (by omega)
                  have HST := Lib.hid (show Bst b0 (z.set (K / 8) (bits .xor .u8 (z[K / 8]?.getD 0) (2 ^ (K % 8) % 256))) fr (i + 1) 2 true from by have h := hst.out.flip HKK.out (by rw [HW.out.2.2.2]; exact hkn) hpo x0 x1 xb; rwa [HOW.out] at h)
                  have HBK := Lib.hid (show Blk (wr.setCell ⟨g, K / 8, none⟩ (.int .u8 (bits .xor .u8 (z[K / 8]?.getD 0) (2 ^ (K % 8) % 256)))) g (z.set (K / 8) (bits .xor .u8 (z[K / 8]?.getD 0) (2 ^ (K % 8) % 256)) ++ sp) from by have h := HK.out.1.set (K / 8) (bits .xor .u8 (z[K / 8]?.getD 0) (2 ^ (K % 8) % 256)); rwa [List.set_append_left _ _ (by rw [HZL.out]; exact hk8)] at h)
                  have HBB := Lib.hid (show Below w.heap.size w (wr.setCell ⟨g, K / 8, none⟩ (.int .u8 (bits .xor .u8 (z[K / 8]?.getD 0) (2 ^ (K % 8) % 256)))) from HK.out.2.1.setCell (p := ⟨g, K / 8, none⟩) (by show w.heap.size ≤ g; have := HG.out.1; have := HB1.out.size; omega) _)
                  have HAR := Lib.hid (show Arr (wr.setCell ⟨g, K / 8, none⟩ (.int .u8 (bits .xor .u8 (z[K / 8]?.getD 0) (2 ^ (K % 8) % 256)))) w.heap.size 48 [.int .u32 tag, .slice aq n c, .int .i64 bit, .int .u32 mask] from (Below.heap_setCell wr ⟨g, K / 8, none⟩ _ _ (by show w.heap.size ≠ g; have := HG.out.1; have := HA1.out.lt; omega)).trans HK.out.2.2)
                  clear x0 x1 xb hpo
                  go_wp2
                  exact ⟨⟨i + 1, 2, true, z.set (K / 8) (bits .xor .u8 (z[K / 8]?.getD 0) (2 ^ (K % 8) % 256)), by omega, congrArg (Value.int .i64) (by omega), rfl, rfl, HST, HBK.out, HBB.out, HAR.out⟩, by simp [intOf]; omega⟩
                · have hpq : ((2 : Int) != (part : Int)) = true := by simp; omega
                  clear hp0 hpe
                  go_wp2
                  exact ⟨⟨i + 1, part, tu, z, by omega, congrArg (Value.int .i64) (by omega), rfl, rfl, Lib.hid hst.out.skip, HK.out.1, HK.out.2.1, HK.out.2.2⟩, by simp [intOf]; omega⟩
            · have d96 : decide ((96 : Int) ≤ (K : Int)) = true := by simp; omega
              have HOW := Lib.hid (show ownP K = 3 by unfold ownP; rw [if_pos (by omega)])
              by_cases hp0 : part = 0
              · have hpd : ((part : Int) != 0) = false := by simp; omega
                have hpo : part = 0 ∨ part = ownP K := .inl hp0
                obtain ⟨x0, x1, xb⟩ := flip_bit (hst.out.byt.getD (K / 8)).1 (hst.out.byt.getD (K / 8)).2 (j := K % 8) (by omega)
                have HST := Lib.hid (show Bst b0 (z.set (K / 8) (bits .xor .u8 (z[K / 8]?.getD 0) (2 ^ (K % 8) % 256))) fr (i + 1) 3 true from by have h := hst.out.flip HKK.out (by rw [HW.out.2.2.2]; exact hkn) hpo x0 x1 xb; rwa [HOW.out] at h)
                have HBK := Lib.hid (show Blk (wr.setCell ⟨g, K / 8, none⟩ (.int .u8 (bits .xor .u8 (z[K / 8]?.getD 0) (2 ^ (K % 8) % 256)))) g (z.set (K / 8) (bits .xor .u8 (z[K / 8]?.getD 0) (2 ^ (K % 8) % 256)) ++ sp) from by have h := HK.out.1.set (K / 8) (bits .xor .u8 (z[K / 8]?.getD 0) (2 ^ (K % 8) % 256)); rwa [List.set_append_left _ _ (by rw [HZL.out]; exact hk8)] at h)
                have HBB := Lib.hid (show Below w.heap.size w (wr.setCell ⟨g, K / 8, none⟩ (.int .u8 (bits .xor .u8 (z[K / 8]?.getD 0) (2 ^ (K % 8) % 256)))) from HK.out.2.1.setCell (p := ⟨g, K / 8, none⟩) (by show w.heap.size ≤ g; have := HG.out.1; have := HB1.out.size; omega) _)
                have HAR := Lib.hid (show Arr (wr.setCell ⟨g, K / 8, none⟩ (.int .u8 (bits .xor .u8 (z[K / 8]?.getD 0) (2 ^ (K % 8) % 256)))) w.heap.size 48 [.int .u32 tag, .slice aq n c, .int .i64 bit, .int .u32 mask] from (Below.heap_setCell wr ⟨g, K / 8, none⟩ _ _ (by show w.heap.size ≠ g; have := HG.out.1; have := HA1.out.lt; omega)).trans HK.out.2.2)
                clear x0 x1 xb hpo
                go_wp2
                exact ⟨⟨i + 1, 3, true, z.set (K / 8) (bits .xor .u8 (z[K / 8]?.getD 0) (2 ^ (K % 8) % 256)), by omega, congrArg (Value.int .i64) (by omega), rfl, rfl, HST, HBK.out, HBB.out, HAR.out⟩, by simp [intOf]; omega⟩
              · have hpd : ((part : Int) != 0) = true := by simp; omega
                by_cases hpe : part = 3
                · have hpq : ((3 : Int) != (part : Int)) = false := by simp; omega
                  have hpo : part = 0 ∨ part = ownP K := .inr (by rw [hpe]; exact HOW.out.symm)
                  obtain ⟨x0, x1, xb⟩ := flip_bit (hst.out.byt.getD (K / 8)).1 (hst.out.byt.getD (K / 8)).2 (j := K % 8) (by omega)
                  have HST := Lib.hid (show Bst b0 (z.set (K / 8) (bits .xor .u8 (z[K / 8]?.getD 0) (2 ^ (K % 8) % 256))) fr (i + 1) 3 true from by have h := hst.out.flip HKK.out (by rw [HW.out.2.2.2]; exact hkn) hpo x0 x1 xb; rwa [HOW.out] at h)
                  have HBK := Lib.hid (show Blk (wr.setCell ⟨g, K / 8, none⟩ (.int .u8 (bits .xor .u8 (z[K / 8]?.getD 0) (2 ^ (K % 8) % 256)))) g (z.set (K / 8) (bits .xor .u8 (z[K / 8]?.getD 0) (2 ^ (K % 8) % 256)) ++ sp) from by have h := HK.out.1.set (K / 8) (bits .xor .u8 (z[K / 8]?.getD 0) (2 ^ (K % 8) % 256)); rwa [List.set_append_left _ _ (by rw [HZL.out]; exact hk8)] at h)
                  have HBB := Lib.hid (show Below w.heap.size w (wr.setCell ⟨g, K / 8, none⟩ (.int .u8 (bits .xor .u8 (z[K / 8]?.getD 0) (2 ^ (K % 8) % 256)))) from HK.out.2.1.setCell (p := ⟨g, K / 8, none⟩) (by show w.heap.size ≤ g; have := HG.out.1; have := HB1.out.size; omega) _)
                  have HAR := Lib.hid (show Arr (wr.setCell ⟨g, K / 8, none⟩ (.int .u8 (bits .xor .u8 (z[K / 8]?.getD 0) (2 ^ (K % 8) % 256)))) w.heap.size 48 [.int .u32 tag, .slice aq n c, .int .i64 bit, .int .u32 mask] from (Below.heap_setCell wr ⟨g, K / 8, none⟩ _ _ (by show w.heap.size ≠ g; have := HG.out.1; have := HA1.out.lt; omega)).trans HK.out.2.2)
                  clear x0 x1 xb hpo
                  go_wp2
                  exact ⟨⟨i + 1, 3, true, z.set (K / 8) (bits .xor .u8 (z[K / 8]?.getD 0) (2 ^ (K % 8) % 256)), by omega, congrArg (Value.int .i64) (by omega), rfl, rfl, HST, HBK.out, HBB.out, HAR.out⟩, by simp [intOf]; omega⟩
                · have hpq : ((3 : Int) != (part : Int)) = true := by simp; omega
                  clear hp0 hpe
                  go_wp2
                  exact ⟨⟨i + 1, part, tu, z, by omega, congrArg (Value.int .i64) (by omega), rfl, rfl, Lib.hid hst.out.skip, HK.out.1, HK.out.2.1, HK.out.2.2⟩, by simp [intOf]; omega⟩
        · have hkd : decide (8 * (N : Int) ≤ (K : Int)) = true := by simp; omega
          go_wp2
          exact ⟨⟨i + 1, part, tu, z, by omega, congrArg (Value.int .i64) (by omega), rfl, rfl, Lib.hid hst.out.skip, HK.out.1, HK.out.2.1, HK.out.2.2⟩, by simp [intOf]; omega⟩
    · obtain rfl : i = 32 := by omega
      have hzl : z.length = N := by rw [hst.out.len, HW.out.2.2.2]
      have hrd : Reads wr (some ⟨g, 0, none⟩) N z := by
        have hh := HK.out.1.reads 0 N (by rw [List.length_append]; omega)
        rwa [List.drop_zero, List.take_left' hzl] at hh
      have hpr := PR (some ⟨g, 0, none⟩) N cw z wr hrd hst.out.byt (by have h1 := HG.out.2.2.2; have h2 := HW.out.2.2.2; omega) (by omega)
      have HPR := Lib.hid hpr
      have HZL := Lib.hid hzl
      have h32 : decide ((32 : Int) < 32) = false := by decide
      clear hrd hpr hzl c3
      cases tu with
      | false =>
        have hz := (hst.out.no rfl).2
        have HZ := Lib.hid hz
        clear hz
        go_wp2_with fail
        refine HPR.out.mono ?_
        rintro e w4 ⟨hrd, hb4⟩
        rw [HZ.out] at hrd
        obtain ⟨M, a4, c4, _, rfl, _⟩ := HAG.out _ _ _ hrd
        have hb5 : Below w4.heap.size w4 (w4.alloc (.cells #[.int .u32 tag, .slice a4 (pcs L).length c4] 25)) := (Below.refl _ _).alloc (Nat.le_refl _) _
        have HB5 := Lib.hid ((HK.out.2.1.trans (hb4.mono HK.out.2.1.size)).trans (hb5.mono (HK.out.2.1.trans (hb4.mono HK.out.2.1.size)).size))
        clear hb4 hb5 hrd
        go_upto_region 27 with fail
        generalize (w4.alloc (.cells #[.int .u32 tag, .slice a4 (pcs L).length c4] 25)) = w5 at *
        go_wp2_with fail
        refine (WK w5).mono ?_
        rintro e w' ⟨rfl, hb'⟩
        have HF := Lib.hid (HB5.out.trans (hb'.mono HB5.out.size))
        clear hb'
        go_wp2
        go_ret
        exact ⟨rfl, HF.out⟩
      | true =>
        have hw := hst.out.wrong HW.out.2.2.1 HW.out.1 HW.out.2.1
        have HWZ := Lib.hid hw
        go_wp2_with fail
        refine HPR.out.mono ?_
        rintro e w4 ⟨hrd, hb4⟩
        obtain rfl : e = .returned (rdNo 8) := by
          rcases hrd with ⟨h, _⟩ | ⟨_, _, h⟩ | ⟨_, h, _⟩ | ⟨_, h, _⟩
          · have := HZL.out; omega
          · exact h
          · rw [HWZ.out] at h; cases h
          · rw [HWZ.out] at h; cases h
        unfold rdNo
        have hb5 : Below w4.heap.size w4 (w4.alloc (.cells #[.int .u32 0, .slice none 0 0] 25)) := (Below.refl _ _).alloc (Nat.le_refl _) _
        have HB5 := Lib.hid ((HK.out.2.1.trans (hb4.mono HK.out.2.1.size)).trans (hb5.mono (HK.out.2.1.trans (hb4.mono HK.out.2.1.size)).size))
        clear hb4 hb5 hrd
        go_upto_region 27 with fail
        generalize (w4.alloc (.cells #[.int .u32 0, .slice none 0 0] 25)) = w5 at *
        go_wp2_with fail
        refine (WK w5).mono ?_
        rintro e w' ⟨rfl, hb'⟩
        have HF := Lib.hid (HB5.out.trans (hb'.mono HB5.out.size))
        clear hb'
        go_wp2
        go_ret
        exact ⟨rfl, HF.out⟩
end Go.Proofs.Ytnndlpbbllmpjaa
