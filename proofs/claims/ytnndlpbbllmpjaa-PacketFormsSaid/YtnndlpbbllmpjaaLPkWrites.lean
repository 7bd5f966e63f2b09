/-
  The walk of PacketWrites. Written by genpkwrites.py.
-/
import Derived.Test.YtnndlpbbllmpjaaPkSums
import Derived.Test.YtnndlpbbllmpjaaPkRef6
import Derived.Test.YtnndlpbbllmpjaaPkRef7
import Derived.Test.YtnndlpbbllmpjaaMgA
import Derived.Deep.DeepCutAuto
namespace Go.Proofs.Ytnndlpbbllmpjaa
open Go.RowKit
set_option linter.unusedVariables false
set_option linter.unusedSimpArgs false

theorem apart2_of {W1 W2 : World} {B1 : Nat} {a1 a2 : Option Addr} {n1 n2 c1 c2 : Nat} {z1 z2 : List Int} (h1 : Row8 B1 W1 a1 n1 c1 z1) (h2 : Row8 W1.heap.size W2 a2 n2 c2 z2) (y1 : Byt z1) (y2 : Byt z2) (l1 : n1 ≤ 1073741824) (l2 : n2 ≤ 1073741824) (b1 : Below W1.heap.size W1 W2) (T : TypeId) :
    Calls Try.prog 20 #[.slice (some ⟨W2.heap.size, 0, none⟩) 2 2] (W2.alloc (.cells #[.slice a1 n1 c1, .slice a2 n2 c2] T)) fun e w' => e = .returned (.bool true) ∧ Below W2.heap.size W2 w' := by
  obtain ⟨r1, v1, o1, f1, _⟩ := h1.arow y1 l1
  obtain ⟨r2, v2, o2, f2, _⟩ := h2.arow y2 l2
  have p1 : r1.ok W2 := ARow.ok_of o1 (fun g _ hg => b1.block g hg)
  have d : r1.blk = none ∨ r1.blk ≠ r2.blk := by
    cases hb : r1.blk with
    | none => exact .inl rfl
    | some b => exact .inr (fun e => by have := f1 b hb; have := f2 b e.symm; omega)
  have h := apart_2 r1 r2 T W2 p1 o2 d
  rw [v1, v2] at h
  exact h
theorem sumN_mem {L : List Ck} {r : Ck} (h : r ∈ L) : r.n ≤ sumN L := by
  induction L with
  | nil => cases h
  | cons q L ih =>
    have e2 : sumN (q :: L) = q.n + sumN L := by simp [sumN]
    rcases List.mem_cons.1 h with rfl | h
    · omega
    · have := ih h; omega
theorem pcs_n {w w' : World} {M L : List Ck} (h : pcs M = pcs L) (hM : ∀ r ∈ M, CkOk w r) (hL : ∀ r ∈ L, CkOk w' r) {r : Ck} (hr : r ∈ M) : ∃ q ∈ L, r.n = q.n := by
  have h1 : r.pc ∈ pcs M := List.mem_map.2 ⟨r, hr, rfl⟩
  rw [h] at h1
  obtain ⟨q, hq, e⟩ := List.mem_map.1 h1
  have e2 : q.zs = r.zs := congrArg PC.zs e
  exact ⟨q, hq, by rw [← (hM r hr).reads.1, ← (hL q hq).reads.1, e2]⟩
theorem writeP_byt {tag : Int} {L : List PC} (h : ∀ c ∈ L, c.ok) : Byt (writeP tag L) := by
  unfold writeP
  split
  · exact laidP_byt h
  · exact Byt.nil
theorem writeP_len {tag : Int} {L : List PC} : (writeP tag L).length = 0 ∨ (writeP tag L).length = sizeP L := by
  unfold writeP
  split
  · rename_i h
    exact .inr (laidP_len (fun c hc => mayB_len h hc))
  · exact .inl rfl

set_option maxRecDepth 100000 in
set_option maxHeartbeats 1600000 in
theorem packetWrites_of (PW : PkWriteOk) (PS : PkSizeOk) (WK : PkWorks) (tag : Int) (aq : Option Addr) (n c : Nat) (L : List Ck) (w : World) (wt : (Lit.int .u32 tag).wf = true) (h : RowsCk w aq n c L) :
    Calls Try.prog 3 #[.agg #[.int .u32 tag, .slice aq n c]] w fun e w' => e = .returned (.bool true) ∧ Below w.heap.size w w' := by
  obtain ⟨t0, t1⟩ : 0 ≤ tag ∧ tag < 4294967296 := by have := wf_u32_in wt; omega
  clear wt
  obtain ⟨w0, hw0⟩ : ∃ w0, w.alloc (.cells #[.int .u32 tag, .slice aq n c] 25) = w0 := ⟨_, rfl⟩
  have hb0 : Below w.heap.size w w0 := by rw [← hw0]; exact (Below.refl _ _).alloc (Nat.le_refl _) _
  have hA : Arr w0 w.heap.size 25 [.int .u32 tag, .slice aq n c] := by rw [← hw0]; exact arr_new _ _ _
  have c0 := hA.cell (i := 0) rfl
  have c1 := hA.cell (i := 1) rfl
  have HLG := Lib.hid (large_any tag aq n c L w0 (h.below hb0))
  have HB0 := Lib.hid hb0
  have HA0 := Lib.hid hA
  have HROW := Lib.hid h
  clear hb0 hA h
  go_enter Try.func3, Try.ntmps3
  go_wp2_with fail
  refine HLG.out.mono ?_
  rintro e w1 ⟨lg, rfl, hb1, hsm⟩
  have HB1 := Lib.hid (HB0.out.trans (hb1.mono HB0.out.size))
  have HA1 := Lib.hid (HA0.out.keep hb1)
  have HSM := Lib.hid hsm
  clear c0 c1 hb1 HB0 HA0 HLG hsm
  have c0 := HA1.out.cell (i := 0) rfl
  have c1 := HA1.out.cell (i := 1) rfl
  cases lg with
  | true =>
    go_wp2_with fail
    refine (WK w1).mono ?_
    rintro e w' ⟨rfl, hb'⟩
    have HF := Lib.hid (HB1.out.trans (hb'.mono HB1.out.size))
    clear hb'
    go_wp2
    go_ret
    exact ⟨rfl, HF.out⟩
  | false =>
    obtain ⟨hs1, hs2⟩ := HSM.out rfl
    have HN := Lib.hid (And.intro hs1 hs2)
    have hsz : sizeP (pcs L) ≤ 200000 := by have h1 := sizeP_sum HROW.out.row; have h2 := HROW.out.hlen; omega
    have hbz : 12 + (bodyP (pcs L)).length ≤ 200000 := by have h1 := bodyP_sum HROW.out.row; have h2 := HROW.out.hlen; omega
    have HSZ := Lib.hid (And.intro hsz hbz)
    have HCP := Lib.hid (rcopyP_any tag aq n c L w1 (HROW.out.below HB1.out) (by omega) (fun r hr => by have := sumN_mem hr; omega))
    clear hsz hbz hs1 hs2 HSM
    go_wp2_with fail
    refine HCP.out.mono ?_
    rintro e w2 ⟨ai, ci, M, rfl, hb2, hrow, hpc⟩
    clear HCP c0 c1
    have hb3 : Below w2.heap.size w2 (w2.alloc (.cells #[.int .u32 tag, .slice ai n ci] 25)) := (Below.refl _ _).alloc (Nat.le_refl _) _
    have hA3 : Arr (w2.alloc (.cells #[.int .u32 tag, .slice ai n ci] 25)) w2.heap.size 25 [.int .u32 tag, .slice ai n ci] := arr_new _ _ _
    have hb23 := hb2.trans (hb3.mono hb2.size)
    have HB3 := Lib.hid (HB1.out.trans (hb23.mono HB1.out.size))
    have HX3 := Lib.hid (And.intro (HA1.out.keep hb23) hA3)
    have HRM3 := Lib.hid (hrow.rows.below hb3)
    have HPC := Lib.hid hpc
    have c0 := (HA1.out.keep hb2).cell (i := 0) rfl
    have c1 := (HA1.out.keep hb2).cell (i := 1) rfl
    clear hb3 hA3 hb2 hb23 hrow hpc HB1 HA1
    go_upto_region 4 with fail
    generalize (w2.alloc (.cells #[.int .u32 tag, .slice ai n ci] 25)) = w3 at *
    generalize w2.heap.size = gi at *
    clear c0 c1
    obtain ⟨zs, hzs⟩ : ∃ zs, writeP tag (pcs L) = zs := ⟨_, rfl⟩
    obtain ⟨ln, hln⟩ : ∃ ln, zs.length = ln := ⟨_, rfl⟩
    obtain ⟨SZ, hSZ⟩ : ∃ SZ, sizeP (pcs L) = SZ := ⟨_, rfl⟩
    have HZB := Lib.hid (show Byt zs from hzs ▸ writeP_byt (pcs_ok HROW.out))
    have HLN := Lib.hid (show ln = 0 ∨ ln = SZ from by rw [← hln, ← hzs, ← hSZ]; exact writeP_len)
    have HS2 := Lib.hid (show SZ ≤ 200000 ∧ 12 ≤ SZ from ⟨by rw [← hSZ]; exact HSZ.out.1, by rw [← hSZ]; exact sizeP_ge _⟩)
    have HLL := Lib.hid (show ln ≤ 200000 from by have := HLN.out; have := HS2.out; omega)
    have HPW := Lib.hid (show ∀ W, RowsCk W ai n ci M → _ from fun W hW => PW tag ai n ci M W hW (by have := HN.out; omega) t0 t1 (by rw [HPC.out]; have := HSZ.out; omega))
    rw [HPC.out, hzs, hln] at HPW
    have HPS := Lib.hid (show ∀ W, RowsCk W ai n ci M → _ from fun W hW => PS tag ai n ci M W hW (by have := HN.out; omega) (by rw [HPC.out]; have := HSZ.out; omega))
    rw [HPC.out, hSZ] at HPS
    have HRW := Lib.hid (show ∀ W, RowsCk W aq n c L → _ from fun W hW => rwriteP_any tag aq n c L W hW (by have := HN.out; omega) t0 t1 (by have := HSZ.out; omega))
    rw [hzs, hln] at HRW
    have HRS := Lib.hid (show ∀ W, RowsCk W aq n c L → _ from fun W hW => rsize_any tag aq n c L W hW (by have := HN.out; omega) (by have := HSZ.out; omega))
    rw [hSZ] at HRS
    have HSA := Lib.hid (show ∀ W, RowsCk W ai n ci M → RowsCk W aq n c L → _ from fun W hM hW => psame_yes tag ai n ci M aq c L W hM hW HPC.out (fun r hr => by obtain ⟨q, hq, e⟩ := pcs_n HPC.out hM.row HROW.out.row hr; have := sumN_mem hq; have := HN.out; omega))
    clear hzs hln hSZ t0 t1
    have HL3 := Lib.hid (HPW.out w3 HRM3.out)
    have c0 := (HX3.out.1).cell (i := 0) rfl
    have c1 := (HX3.out.1).cell (i := 1) rfl
    have d0 := (HX3.out.2).cell (i := 0) rfl
    have d1 := (HX3.out.2).cell (i := 1) rfl
    go_wp2_with fail
    refine HL3.out.mono ?_
    rintro e w4 ⟨aw, cw, rfl, hb4, hr4⟩
    have HB4 := Lib.hid (HB3.out.trans (hb4.mono HB3.out.size))
    have HX4 := Lib.hid (And.intro (HX3.out.1.keep hb4) (HX3.out.2.keep hb4))
    have HRM4 := Lib.hid (HRM3.out.below hb4)
    have HR4 := Lib.hid hr4
    clear c0 c1 d0 d1
    clear HL3 hb4 HB3 HX3 
    clear hr4 HRM3
    have HL4 := Lib.hid (HPS.out w4 HRM4.out)
    have c0 := (HX4.out.1).cell (i := 0) rfl
    have c1 := (HX4.out.1).cell (i := 1) rfl
    have d0 := (HX4.out.2).cell (i := 0) rfl
    have d1 := (HX4.out.2).cell (i := 1) rfl
    go_wp2_with fail
    refine HL4.out.mono ?_
    rintro e w5 ⟨rfl, hb5⟩
    have HB5 := Lib.hid (HB4.out.trans (hb5.mono HB4.out.size))
    have HX5 := Lib.hid (And.intro (HX4.out.1.keep hb5) (HX4.out.2.keep hb5))
    have HRM5 := Lib.hid (HRM4.out.below hb5)
    have HR5 := Lib.hid (HR4.out.keep hb5)
    clear c0 c1 d0 d1
    clear HL4 hb5 HB4 HX4 
    clear HR4 HRM4
    have HL5 := Lib.hid (HRW.out w5 (HROW.out.below HB5.out))
    have c0 := (HX5.out.1).cell (i := 0) rfl
    have c1 := (HX5.out.1).cell (i := 1) rfl
    have d0 := (HX5.out.2).cell (i := 0) rfl
    have d1 := (HX5.out.2).cell (i := 1) rfl
    go_wp2_with fail
    refine HL5.out.mono ?_
    rintro e w6 ⟨a6, c6, rfl, hb6, hr6⟩
    have HB6 := Lib.hid (HB5.out.trans (hb6.mono HB5.out.size))
    have HX6 := Lib.hid (And.intro (HX5.out.1.keep hb6) (HX5.out.2.keep hb6))
    have HRM6 := Lib.hid (HRM5.out.below hb6)
    have HR6 := Lib.hid (HR5.out.keep hb6)
    have HQ6 := Lib.hid hr6
    clear c0 c1 d0 d1
    clear HL5 hb6 HB5 HX5 
    clear HR5 HRM5 hr6
    have heq := eqBytes_any aw a6 ln cw c6 ln zs zs w6 HR6.out.reads HQ6.out HZB.out HZB.out (by have := HLL.out; omega) (by have := HLL.out; omega)
    rw [decide_eq_true (rfl : zs = zs)] at heq
    have HEQ := Lib.hid heq
    clear heq
    have HL6 := Lib.hid (HEQ.out)
    have c0 := (HX6.out.1).cell (i := 0) rfl
    have c1 := (HX6.out.1).cell (i := 1) rfl
    have d0 := (HX6.out.2).cell (i := 0) rfl
    have d1 := (HX6.out.2).cell (i := 1) rfl
    go_wp2_with fail
    refine HL6.out.mono ?_
    rintro e w7 ⟨rfl, hb7, _⟩
    have HB7 := Lib.hid (HB6.out.trans (hb7.mono HB6.out.size))
    have HX7 := Lib.hid (And.intro (HX6.out.1.keep hb7) (HX6.out.2.keep hb7))
    have HRM7 := Lib.hid (HRM6.out.below hb7)
    have HR7 := Lib.hid (HR6.out.keep hb7)
    clear c0 c1 d0 d1
    clear HL6 hb7 HB6 HX6 
    clear HR6 HRM6 HQ6
    have HL7 := Lib.hid (HRS.out w7 (HROW.out.below HB7.out))
    have c0 := (HX7.out.1).cell (i := 0) rfl
    have c1 := (HX7.out.1).cell (i := 1) rfl
    have d0 := (HX7.out.2).cell (i := 0) rfl
    have d1 := (HX7.out.2).cell (i := 1) rfl
    go_wp2_with fail
    refine HL7.out.mono ?_
    rintro e w8 ⟨rfl, hb8⟩
    have HB8 := Lib.hid (HB7.out.trans (hb8.mono HB7.out.size))
    have HX8 := Lib.hid (And.intro (HX7.out.1.keep hb8) (HX7.out.2.keep hb8))
    have HRM8 := Lib.hid (HRM7.out.below hb8)
    have HR8 := Lib.hid (HR7.out.keep hb8)
    clear c0 c1 d0 d1
    clear HL7 hb8 HB7 HX7 
    clear HR7 HRM7
    have HL8 := Lib.hid (HSA.out w8 HRM8.out (HROW.out.below HB8.out))
    have c0 := (HX8.out.1).cell (i := 0) rfl
    have c1 := (HX8.out.1).cell (i := 1) rfl
    have d0 := (HX8.out.2).cell (i := 0) rfl
    have d1 := (HX8.out.2).cell (i := 1) rfl
    go_wp2_with fail
    refine HL8.out.mono ?_
    rintro e w9 ⟨rfl, hb9⟩
    have HB9 := Lib.hid (HB8.out.trans (hb9.mono HB8.out.size))
    have HX9 := Lib.hid (And.intro (HX8.out.1.keep hb9) (HX8.out.2.keep hb9))
    have HRM9 := Lib.hid (HRM8.out.below hb9)
    have HR9 := Lib.hid (HR8.out.keep hb9)
    clear c0 c1 d0 d1
    clear HL8 hb9 HB8 HX8 
    clear HR8 HRM8
    rcases HLN.out with hl | hl
    · subst hl
      clear HLN
      have HL9 := Lib.hid (HPW.out w9 HRM9.out)
      have c0 := (HX9.out.1).cell (i := 0) rfl
      have c1 := (HX9.out.1).cell (i := 1) rfl
      have d0 := (HX9.out.2).cell (i := 0) rfl
      have d1 := (HX9.out.2).cell (i := 1) rfl
      go_wp2_with fail
      refine HL9.out.mono ?_
      rintro e w10 ⟨ax, cx, rfl, hb10, hr10⟩
      have HB10 := Lib.hid (HB9.out.trans (hb10.mono HB9.out.size))
      have HX10 := Lib.hid (And.intro (HX9.out.1.keep hb10) (HX9.out.2.keep hb10))
      have HRM10 := Lib.hid (HRM9.out.below hb10)
      have HAP := Lib.hid (apart2_of HR9.out hr10 HZB.out HZB.out (by have := HLL.out; omega) (by have := HLL.out; omega) hb10 29)
      clear c0 c1 d0 d1
      clear HL9 hb10 HB9 HX9 
      clear HR9 HRM9 hr10
      go_wp2_with fail
      refine HAP.out.mono ?_
      rintro e w11 ⟨rfl, hb11⟩
      have HB11 := Lib.hid (HB10.out.trans (hb11.mono HB10.out.size))
      clear hb11 HAP HB10
      go_wp2_with fail
      refine (WK w11).mono ?_
      rintro e w' ⟨rfl, hb'⟩
      have HF := Lib.hid (HB11.out.trans (hb'.mono HB11.out.size))
      clear hb'
      go_wp2
      go_ret
      exact ⟨rfl, HF.out⟩
    · subst hl
      have hpos : (0 : Int) < (ln : Int) := by have := HS2.out; omega
      clear HLN
      have HL9 := Lib.hid (HPW.out w9 HRM9.out)
      have c0 := (HX9.out.1).cell (i := 0) rfl
      have c1 := (HX9.out.1).cell (i := 1) rfl
      have d0 := (HX9.out.2).cell (i := 0) rfl
      have d1 := (HX9.out.2).cell (i := 1) rfl
      go_wp2_with fail
      refine HL9.out.mono ?_
      rintro e w10 ⟨ax, cx, rfl, hb10, hr10⟩
      have HB10 := Lib.hid (HB9.out.trans (hb10.mono HB9.out.size))
      have HX10 := Lib.hid (And.intro (HX9.out.1.keep hb10) (HX9.out.2.keep hb10))
      have HRM10 := Lib.hid (HRM9.out.below hb10)
      have HAP := Lib.hid (apart2_of HR9.out hr10 HZB.out HZB.out (by have := HLL.out; omega) (by have := HLL.out; omega) hb10 29)
      clear c0 c1 d0 d1
      clear HL9 hb10 HB9 HX9 
      clear HR9 HRM9 hr10
      go_wp2_with fail
      refine HAP.out.mono ?_
      rintro e w11 ⟨rfl, hb11⟩
      have HB11 := Lib.hid (HB10.out.trans (hb11.mono HB10.out.size))
      clear hb11 HAP HB10
      go_wp2_with fail
      refine (WK w11).mono ?_
      rintro e w' ⟨rfl, hb'⟩
      have HF := Lib.hid (HB11.out.trans (hb'.mono HB11.out.size))
      clear hb'
      go_wp2
      go_ret
      exact ⟨rfl, HF.out⟩
end Go.Proofs.Ytnndlpbbllmpjaa
