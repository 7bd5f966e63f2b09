/-
  The walk of PacketAlone. Written by genpkalone.py.
-/
import Derived.Test.YtnndlpbbllmpjaaPkApi
import Derived.Test.YtnndlpbbllmpjaaPkSums
import Derived.Test.YtnndlpbbllmpjaaMgA
import Derived.Deep.DeepCutAuto
import Derived.Deep.CutRange
namespace Go.Proofs.Ytnndlpbbllmpjaa
open Go.RowKit
set_option linter.unusedVariables false
set_option linter.unusedSimpArgs false

/-- The chunks of so many kinds. -/
def kPs (zs : List Int) (j : Nat) : List PC := (List.range j).map fun i => ⟨zs[i]?.getD 0, 0, List.replicate (i % 9) 0⟩
def cntA (zs : List Int) (j : Nat) : Nat := ((zs.take j).filter aloneK).length
theorem kPs_succ (zs : List Int) (j : Nat) : kPs zs (j + 1) = kPs zs j ++ [⟨zs[j]?.getD 0, 0, List.replicate (j % 9) 0⟩] := by simp [kPs, List.range_succ]
theorem kPs_len (zs : List Int) (j : Nat) : (kPs zs j).length = j := by simp [kPs]
theorem cntA_succ {zs : List Int} {j : Nat} (h : j < zs.length) : cntA zs (j + 1) = cntA zs j + (if aloneK (zs[j]?.getD 0) = true then 1 else 0) := by
  unfold cntA
  rw [take_snoc_getD _ _ h, List.filter_append, List.length_append]
  by_cases hk : aloneK (zs[j]?.getD 0) = true <;> simp [hk]
theorem cntA_le (zs : List Int) (j : Nat) : cntA zs j ≤ j := by
  unfold cntA
  have h1 := List.length_filter_le aloneK (zs.take j)
  have h2 := List.length_take_le j zs
  omega
theorem kPs_all {zs : List Int} {j n : Nat} (h : j ≤ zs.length) : (kPs zs j).all (may1 n) = !(decide (0 < cntA zs j) && decide (1 < n)) := by
  induction j with
  | zero => simp [kPs, cntA]
  | succ j ih =>
    rw [kPs_succ, List.all_append, ih (by omega), cntA_succ (by omega)]
    have hl : j % 9 ≤ 65531 := by omega
    cases hk : aloneK (zs[j]?.getD 0) <;> by_cases hn : 1 < n <;> simp [may1, hk, hn, hl]
theorem kPs_may {zs : List Int} {j : Nat} (h : j ≤ zs.length) : mayB (kPs zs j) = (decide (0 < j) && (decide (cntA zs j = 0) || decide (j = 1))) := by
  unfold mayB
  rw [kPs_len, kPs_all h]
  have := cntA_le zs j
  by_cases h0 : 0 < j <;> by_cases hc : cntA zs j = 0 <;> by_cases h1 : j = 1 <;> simp [h0, hc, h1] <;> omega
theorem kPs_may2 {zs : List Int} {j : Nat} (h : j ≤ zs.length) (k : Int) : mayB (kPs zs j ++ [⟨k, 0, []⟩]) = (decide (cntA zs j + (if aloneK k = true then 1 else 0) = 0) || decide (j = 0)) := by
  unfold mayB
  rw [List.length_append, kPs_len, List.all_append, kPs_all h]
  have := cntA_le zs j
  cases hk : aloneK k <;> by_cases h0 : j = 0 <;> by_cases hc : cntA zs j = 0 <;> simp [may1, hk, h0, hc] <;> omega
theorem kPs_small {zs : List Int} {j : Nat} : ∀ c ∈ kPs zs j, c.zs.length ≤ 8 := by
  intro c hc
  unfold kPs at hc
  obtain ⟨i, _, rfl⟩ := List.mem_map.1 hc
  simp
  omega
theorem sizeP_small {L : List PC} (h : ∀ c ∈ L, c.zs.length ≤ 8) : sizeP L ≤ 12 + L.length * 12 := by
  induction L with
  | nil => simp [sizeP]
  | cons c L ih =>
    have h1 := ih (fun d hd => h d (by simp [hd]))
    have h2 := h c (by simp)
    have e : sizeP (c :: L) = sizeP L + (4 + up4 c.zs.length) := by simp [sizeP, sizeC]; omega
    have h3 := up4_le c.zs.length
    have h4 : up4 c.zs.length ≤ 8 := by unfold up4; omega
    rw [e, List.length_cons]
    omega
theorem write_pos (tag : Int) (L : List PC) : decide ((0 : Int) < ((writeP tag L).length : Int)) = mayB L := by
  unfold writeP
  cases h : mayB L with
  | false => rfl
  | true =>
    rw [if_pos rfl]
    have : (laidP tag ((sumP tag L : Nat) : Int) L).length = 12 + (bodyP L).length := by unfold laidP; rw [List.length_append, headP_len]
    simp
    omega
theorem cells_kind {wr : World} {b off n j : Nat} {zs : List Int} (h : Reads wr (some ⟨b, off, none⟩) n zs) (hj : j < n) : wr.cell? ⟨b, off + j, none⟩ = some (.int .u8 (zs[j]?.getD 0)) := by
  rcases h.2 with h0 | ⟨b', off', e, _, hc⟩
  · omega
  · cases e
    exact hc j hj
/-- What the operations of the drawn region leave behind. -/
def PkAl (wr : World) (gp base : Nat) (kb ko kn kc : Nat) (kj : Int) (j m : Nat) (a2 : Option Addr) (c2 : Nat) (M : List Ck) (i : Nat) (v : Value) (W : World) : Prop := match i with | 0 => v = .pointer (some ⟨gp, 1, none⟩) | 1 => v = .slice a2 j c2 | 2 => v = .slice (some ⟨kb, ko, none⟩) kn kc | 3 => v = .int .i64 (j : Int) | 4 => v = .pointer (some ⟨kb, ko + j, none⟩) | 5 => v = .int .u8 kj | 6 => v = .int .i64 (j : Int) | 7 => v = .int .i64 (m : Int) | 8 => ∃ gz, v = .slice (some ⟨gz, 0, none⟩) m m ∧ base ≤ gz ∧ Blk W gz (List.replicate m 0) | 9 => ∃ gz_30, v = .agg #[.int .u8 kj, .int .u8 0, .slice (some ⟨gz_30, 0, none⟩) m m] ∧ base ≤ gz_30 ∧ Blk W gz_30 (List.replicate m 0) | 10 => ∃ gs gz, v = .slice (some ⟨gs, 0, none⟩) 1 1 ∧ wr.heap.size ≤ gs ∧ Arr W gs 41 [.int .u8 kj, .int .u8 0, .slice (some ⟨gz, 0, none⟩) m m] ∧ base ≤ gz ∧ Blk W gz (List.replicate m 0) | 11 => ∃ aX cX gz, v = .slice aX (j + 1) cX ∧ RowC 0 base W aX (j + 1) cX (M ++ [(Ck.mk kj 0 (some ⟨gz, 0, none⟩) m m (List.replicate m 0))]) | 12 => v = .pointer (some ⟨gp, 1, none⟩) | _ => True
theorem PkAl_mono {wr : World} {gp base : Nat} {kb ko kn kc : Nat} {kj : Int} {j m : Nat} {a2 : Option Addr} {c2 : Nat} {M : List Ck} {W W' : World} (hb : Below W.heap.size W W') (jo : Nat) (xo : Value) (h : PkAl wr gp base kb ko kn kc kj j m a2 c2 M jo xo W) : PkAl wr gp base kb ko kn kc kj j m a2 c2 M jo xo W' := by
  unfold PkAl at h ⊢
  split at h <;> try exact h
  · obtain ⟨gz, e0, h0_0, h0_1⟩ := h
    exact ⟨gz, e0, h0_0, h0_1.below hb⟩
  · obtain ⟨gz_30, e0, h0_0, h0_1⟩ := h
    exact ⟨gz_30, e0, h0_0, h0_1.below hb⟩
  · obtain ⟨gs, gz, e0, h0_0, h0_1, h0_2, h0_3⟩ := h
    exact ⟨gs, gz, e0, h0_0, h0_1.keep hb, h0_2, h0_3.below hb⟩
  · obtain ⟨aX, cX, gz, e0, h0_0⟩ := h
    exact ⟨aX, cX, gz, e0, h0_0.keep hb⟩
theorem PkAl_app {wr : World} {gp base : Nat} {kb ko kn kc : Nat} {kj : Int} {j m : Nat} {a2 : Option Addr} {c2 : Nat} {M : List Ck} {W W9 : World} {jj : Nat} {x : Value} (hrow : RowC 0 base W a2 j c2 M) (hrb : ∀ k, (Value.slice a2 j c2).ownBlock = some k → k < wr.heap.size) (hg : W.grownBy W9 (Value.slice a2 j c2).ownBlock) (hj : jj ≠ 11) (h : PkAl wr gp base kb ko kn kc kj j m a2 c2 M jj x W) : PkAl wr gp base kb ko kn kc kj j m a2 c2 M jj x W9 := by
  have h8 : ∀ {g : Nat} {zs : List Int}, Blk W g zs → Blk W9 g zs := fun {g} {zs} h => (hg.block g h.lt (hrow.apart (r := ⟨0, 0, some ⟨g, 0, none⟩, 1, 1, []⟩) (fun _ p hp => by cases hp; exact .inr ⟨_, h⟩) Nat.one_pos rfl)).trans h
  unfold PkAl at h ⊢
  split at h <;> first | exact h | exact absurd rfl hj | skip
  · obtain ⟨gz, e0, h0, h1⟩ := h
    exact ⟨gz, e0, h0, h8 h1⟩
  · obtain ⟨gz, e0, h0, h1⟩ := h
    exact ⟨gz, e0, h0, h8 h1⟩
  · obtain ⟨gs, gz, e0, h0, h1, h2, h3⟩ := h
    exact ⟨gs, gz, e0, h0, (hg.block gs h1.lt (fun e => by have := hrb gs e.symm; omega)).trans h1, h2, h8 h3⟩

set_option maxRecDepth 100000 in
set_option maxHeartbeats 3200000 in
theorem packetAlone_of (PW : PkWriteOk) (PF : PkFitsOk) (WK : PkWorks) (ka : Option Addr) (kn kc : Nat) (z0 : List Int) (more : Int) (w : World) (wb : IsRow .u8 w ka kn kc z0) (wm : (Lit.int .u8 more).wf = true) :
    Calls Try.prog 7 #[.slice ka kn kc, .int .u8 more] w fun e w' => e = .returned (.bool true) ∧ Below w.heap.size w w' := by
  obtain ⟨hr, hbyt, hcap, hmax⟩ := wb.reads
  generalize z0.take kn = zs at hr hbyt
  clear wb
  obtain ⟨mo0, mo1⟩ : 0 ≤ more ∧ more < 256 := by have := wf_u8_in wm; omega
  clear wm
  by_cases hbig : 100 < kn
  · have hbi : (100 : Int) < (kn : Int) := by omega
    have HW := Lib.hid (WK w)
    go_enter Try.func7, Try.ntmps7
    go_wp2_with fail
    refine HW.out.mono ?_
    rintro e w1 ⟨rfl, hb1⟩
    have HB := Lib.hid hb1
    clear hb1
    go_wp2
    go_ret
    exact ⟨rfl, HB.out⟩
  have hbi : decide ((100 : Int) < (kn : Int)) = false := by simp; omega
  have HZL := Lib.hid hr.1
  have HR := Lib.hid (And.intro hr hbyt)
  have HK100 := Lib.hid (show kn ≤ 100 by omega)
  clear hr hbyt
  have hb1 : Below w.heap.size w (w.alloc (.cells #[.int .u32 1, .slice none 0 0] 25)) := (Below.refl _ _).alloc (Nat.le_refl _) _
  have hA1 : Arr (w.alloc (.cells #[.int .u32 1, .slice none 0 0] 25)) w.heap.size 25 [.int .u32 1, .slice none 0 0] := arr_new _ _ _
  have hs1 : (w.alloc (.cells #[.int .u32 1, .slice none 0 0] 25)).heap.size = w.heap.size + 1 := by simp
  have H1 := Lib.hid (And.intro hb1 (And.intro hA1 hs1))
  clear hb1 hA1 hs1
  go_enter Try.func7, Try.ntmps7
  go_upto_region 4 with fail
  generalize (w.alloc (.cells #[.int .u32 1, .slice none 0 0] 25)) = w1 at *
  generalize hgp : w.heap.size = gp at H1 ⊢
  have HGP := Lib.hid hgp
  clear hgp
  go_wp2_with fail
  go_loopw [6, 7] (fun s ii wr => ∃ (j : Nat) (a2 : Option Addr) (c2 : Nat) (M : List Ck), j ≤ kn ∧ ii = .int .i64 (j : Int) ∧ s = .int .i64 ((cntA zs j : Nat) : Int) ∧ RowC 0 w1.heap.size wr a2 j c2 M ∧ pcs M = kPs zs j ∧ Arr wr gp 25 [.int .u32 1, .slice a2 j c2] ∧ Below w.heap.size w wr ∧ w1.heap.size ≤ wr.heap.size) (fun _ ii _ => kn - (intOf ii).toNat)
  case atStart => exact ⟨0, none, 0, [], Nat.zero_le _, rfl, rfl, RowC.nil _ _ (Nat.zero_le _) _, rfl, H1.out.2.1, by rw [HGP.out]; exact H1.out.1, Nat.le_refl _⟩
  case round =>
    obtain ⟨j, a2, c2, M, hj, rfl, rfl, hrow, hM, hA, hbw, hsz⟩ := hrel
    have HROW := Lib.hid hrow
    have HM := Lib.hid hM
    have HAP := Lib.hid hA
    have HBW := Lib.hid hbw
    clear hrow hM hA hbw
    by_cases hjn : j < kn
    · skip
      obtain ⟨kb, ko, rfl⟩ := HR.out.1.some_of (by omega)
      obtain ⟨base, hbase⟩ : ∃ base, base = w1.heap.size := ⟨_, rfl⟩
      rw [← hbase] at HROW hsz
      have HBASE := Lib.hid hbase
      obtain ⟨kj, hkj⟩ : ∃ kj, zs[j]?.getD 0 = kj := ⟨_, rfl⟩
      obtain ⟨m, hm⟩ : ∃ m, j % 9 = m := ⟨_, rfl⟩
      have HKV := Lib.hid (And.intro hkj hm)
      have hrd := HR.out.1.below HBW.out
      have ck0 := cells_kind hrd hjn
      rw [hkj] at ck0
      have HKB := Lib.hid (show 0 ≤ kj ∧ kj < 256 from by rw [← hkj]; exact HR.out.2.getD j)
      have HM9 := Lib.hid (show m ≤ 8 by omega)
      have HJN := Lib.hid (show j ≤ 1048576 by have := HK100.out; omega)
      have HBS := Lib.hid hsz
      have HGB := Lib.hid (show gp < base by have := H1.out.2.2; have := HGP.out; omega)
      have HRB := Lib.hid (show ∀ k, (Value.slice a2 j c2).ownBlock = some k → k < wr.heap.size from fun k hk => (World.ownsRow.lt HROW.out.own k hk).2)
      have HSZ := Lib.hid (show ∀ W, Below base wr W → wr.heap.size ≤ W.heap.size from fun W h => h.size)
      have hkbl : kb < base := by
        rcases HR.out.1.2 with h0 | ⟨b', off', e, hlt, _⟩
        · omega
        · cases e; have := H1.out.2.2; have := HGP.out; omega
      have HKJ := Lib.hid (show ∀ W, Below base wr W → W.cell? ⟨kb, ko + j, none⟩ = some (.int .u8 kj) from fun W h => (h.cell (p := ⟨kb, ko + j, none⟩) hkbl).trans ck0)
      have HRM := Lib.hid (show ((j : Int)).tmod 9 = (m : Int) from by rw [Int.tmod_eq_emod_of_nonneg (by omega)]; omega)
      have hj0 : (0 : Int) ≤ (j : Int) := by omega
      have hj1 : (j : Int) < (kn : Int) := by omega
      clear hrd ck0 hkbl hkj hm hbase hsz
      go_upto_region 8 with fail
      refine wp_region_any (by kernel_rfl) ?_
      refine Vals.wpAny_goodLastL (PkAl wr gp base kb ko kn kc kj j m a2 c2 M) (fun listed W => Below base wr W ∧ base ≤ W.heap.size ∧ (listed.getD 11 false = false → RowC 0 base W a2 j c2 M) ∧ Arr W gp 25 [.int .u32 1, .slice a2 j c2]) [some 22, some 23, some 24, some 25, some 26, some 27, some 28, some 29, some 30, some 31, some 32, some 33, some 34, none] 13 115 _ _ rfl (by kernel_rfl) (by kernel_rfl) (by kernel_rfl) (by decide) rfl ?step ?fin ⟨(Below.refl _ _).drew, HBS.out, fun _ => HROW.out.keep (Below.of_drewN wr 1), HAP.out.keep (Below.of_drewN wr 1)⟩
      case step =>
        intro i o d ho hd hiN listed a W hls hun hcl hJ hdf hdep hfr K hK
        match i, ho, hd with
        | 0, ho, hd =>
          have ho' := ho
          simp only [List.getElem?_toArray, List.getElem?_cons_zero, Option.some.injEq] at ho hd
          subst ho hd
          have r5 : a.eval (.tmp 5) = .pointer (some ⟨gp, 0, none⟩) := hfr 5 (by decide)
          rw [Vals.eval_tmp] at r5
          refine Vals.wpOp_run ho' rfl ?_
          clear hdep hfr ho' hdf
          go_simp
          exact hK _ _ (fun _ _ _ _ h => h) ⟨hJ.1, hJ.2.1, fun h => hJ.2.2.1 (Vals.jlisted (i := 0) h (by decide)), hJ.2.2.2⟩ (fun _ => rfl)
        | 1, ho, hd =>
          have ho' := ho
          simp only [List.getElem?_toArray, List.getElem?_cons_zero, List.getElem?_cons_succ, Option.some.injEq] at ho hd
          subst ho hd
          have r22 : a.eval (.tmp 22) = .pointer (some ⟨gp, 1, none⟩) := hdep ⟨0, .data⟩ (by simp) rfl 22 rfl
          rw [Vals.eval_tmp] at r22
          have c0 := hJ.2.2.2.cell (i := 1) rfl
          refine Vals.wpOp_run ho' rfl ?_
          clear hdep hfr ho' hdf
          go_simp
          exact hK _ _ (fun _ _ _ _ h => h) ⟨hJ.1, hJ.2.1, fun h => hJ.2.2.1 (Vals.jlisted (i := 1) h (by decide)), hJ.2.2.2⟩ (fun _ => rfl)
        | 2, ho, hd =>
          have ho' := ho
          simp only [List.getElem?_toArray, List.getElem?_cons_zero, List.getElem?_cons_succ, Option.some.injEq] at ho hd
          subst ho hd
          have r0 : a.eval (.tmp 0) = .slice (some ⟨kb, ko, none⟩) kn kc := hfr 0 (by decide)
          rw [Vals.eval_tmp] at r0
          refine Vals.wpOp_run ho' rfl ?_
          clear hdep hfr ho' hdf
          go_simp
          exact hK _ _ (fun _ _ _ _ h => h) ⟨hJ.1, hJ.2.1, fun h => hJ.2.2.1 (Vals.jlisted (i := 2) h (by decide)), hJ.2.2.2⟩ (fun _ => rfl)
        | 3, ho, hd =>
          have ho' := ho
          simp only [List.getElem?_toArray, List.getElem?_cons_zero, List.getElem?_cons_succ, Option.some.injEq] at ho hd
          subst ho hd
          have r7 : a.eval (.tmp 7) = .int .i64 (j : Int) := hfr 7 (by decide)
          rw [Vals.eval_tmp] at r7
          refine Vals.wpOp_run ho' rfl ?_
          clear hdep hfr ho' hdf
          go_simp
          exact hK _ _ (fun _ _ _ _ h => h) ⟨hJ.1, hJ.2.1, fun h => hJ.2.2.1 (Vals.jlisted (i := 3) h (by decide)), hJ.2.2.2⟩ (fun _ => rfl)
        | 4, ho, hd =>
          have ho' := ho
          simp only [List.getElem?_toArray, List.getElem?_cons_zero, List.getElem?_cons_succ, Option.some.injEq] at ho hd
          subst ho hd
          have r24 : a.eval (.tmp 24) = .slice (some ⟨kb, ko, none⟩) kn kc := hdep ⟨2, .data⟩ (by simp) rfl 24 rfl
          rw [Vals.eval_tmp] at r24
          have r25 : a.eval (.tmp 25) = .int .i64 (j : Int) := hdep ⟨3, .data⟩ (by simp) rfl 25 rfl
          rw [Vals.eval_tmp] at r25
          refine Vals.wpOp_run ho' rfl ?_
          clear hdep hfr ho' hdf
          go_simp
          exact hK _ _ (fun _ _ _ _ h => h) ⟨hJ.1, hJ.2.1, fun h => hJ.2.2.1 (Vals.jlisted (i := 4) h (by decide)), hJ.2.2.2⟩ (fun _ => rfl)
        | 5, ho, hd =>
          have ho' := ho
          simp only [List.getElem?_toArray, List.getElem?_cons_zero, List.getElem?_cons_succ, Option.some.injEq] at ho hd
          subst ho hd
          have r26 : a.eval (.tmp 26) = .pointer (some ⟨kb, ko + j, none⟩) := hdep ⟨4, .data⟩ (by simp) rfl 26 rfl
          rw [Vals.eval_tmp] at r26
          have ck := HKJ.out W hJ.1
          refine Vals.wpOp_run ho' rfl ?_
          clear hdep hfr ho' hdf
          go_simp
          exact hK _ _ (fun _ _ _ _ h => h) ⟨hJ.1, hJ.2.1, fun h => hJ.2.2.1 (Vals.jlisted (i := 5) h (by decide)), hJ.2.2.2⟩ (fun _ => rfl)
        | 6, ho, hd =>
          have ho' := ho
          simp only [List.getElem?_toArray, List.getElem?_cons_zero, List.getElem?_cons_succ, Option.some.injEq] at ho hd
          subst ho hd
          have r7 : a.eval (.tmp 7) = .int .i64 (j : Int) := hfr 7 (by decide)
          rw [Vals.eval_tmp] at r7
          refine Vals.wpOp_run ho' rfl ?_
          clear hdep hfr ho' hdf
          go_simp
          exact hK _ _ (fun _ _ _ _ h => h) ⟨hJ.1, hJ.2.1, fun h => hJ.2.2.1 (Vals.jlisted (i := 6) h (by decide)), hJ.2.2.2⟩ (fun _ => rfl)
        | 7, ho, hd =>
          have ho' := ho
          simp only [List.getElem?_toArray, List.getElem?_cons_zero, List.getElem?_cons_succ, Option.some.injEq] at ho hd
          subst ho hd
          have r28 : a.eval (.tmp 28) = .int .i64 (j : Int) := hdep ⟨6, .data⟩ (by simp) rfl 28 rfl
          rw [Vals.eval_tmp] at r28
          refine Vals.wpOp_run ho' rfl ?_
          clear hdep hfr ho' hdf
          go_simp
          exact hK _ _ (fun _ _ _ _ h => h) ⟨hJ.1, hJ.2.1, fun h => hJ.2.2.1 (Vals.jlisted (i := 7) h (by decide)), hJ.2.2.2⟩ (fun _ => congrArg (Value.int .i64) HRM.out)
        | 8, ho, hd =>
          have ho' := ho
          simp only [List.getElem?_toArray, List.getElem?_cons_zero, List.getElem?_cons_succ, Option.some.injEq] at ho hd
          subst ho hd
          have r29 : a.eval (.tmp 29) = .int .i64 (m : Int) := hdep ⟨7, .data⟩ (by simp) rfl 29 rfl
          rw [Vals.eval_tmp] at r29
          have hmk := run_make_row' (P := Try.prog) 29 5 (.int .u8 0) 1 Try.underlying29 Try.infoR rfl .i64 .i64 m (by have := HM9.out; omega) (by have := HM9.out; omega) W
          refine Vals.wpOp_run ho' rfl ?_
          clear hdep hfr ho' hdf
          go_simp
          have hb3 : Below W.heap.size W (W.alloc (.cells (madeCells #[Value.int .u8 0] m) 5)) := (Below.refl _ _).alloc (Nat.le_refl _) _
          exact hK _ _ (fun j x _ _ h => PkAl_mono hb3 j x h) ⟨hJ.1.trans (hb3.mono hJ.2.1), Nat.le_trans hJ.2.1 hb3.size, fun h => (hJ.2.2.1 (Vals.jlisted (i := 8) h (by decide))).keep hb3, hJ.2.2.2.keep hb3⟩ (fun _ => ⟨_, rfl, hJ.2.1, blk_made W m⟩)
        | 9, ho, hd =>
          have ho' := ho
          simp only [List.getElem?_toArray, List.getElem?_cons_zero, List.getElem?_cons_succ, Option.some.injEq] at ho hd
          subst ho hd
          have r27 : a.eval (.tmp 27) = .int .u8 kj := hdep ⟨5, .data⟩ (by simp) rfl 27 rfl
          rw [Vals.eval_tmp] at r27
          have g30 : ∃ gz_30, a.eval (.tmp 30) = .slice (some ⟨gz_30, 0, none⟩) m m ∧ base ≤ gz_30 ∧ Blk W gz_30 (List.replicate m 0) := hdep ⟨8, .data⟩ (by simp) rfl 30 rfl
          rw [Vals.eval_tmp] at g30
          obtain ⟨gz_30, r30, h30_0, h30_1⟩ := g30
          refine Vals.wpOp_run ho' rfl ?_
          clear hdep hfr ho' hdf
          go_simp
          exact hK _ _ (fun _ _ _ _ h => h) ⟨hJ.1, hJ.2.1, fun h => hJ.2.2.1 (Vals.jlisted (i := 9) h (by decide)), hJ.2.2.2⟩ (fun _ => ⟨_, rfl, h30_0, h30_1⟩)
        | 10, ho, hd =>
          have ho' := ho
          simp only [List.getElem?_toArray, List.getElem?_cons_zero, List.getElem?_cons_succ, Option.some.injEq] at ho hd
          subst ho hd
          have g31 : ∃ gz_31, a.eval (.tmp 31) = .agg #[.int .u8 kj, .int .u8 0, .slice (some ⟨gz_31, 0, none⟩) m m] ∧ base ≤ gz_31 ∧ Blk W gz_31 (List.replicate m 0) := hdep ⟨9, .data⟩ (by simp) rfl 31 rfl
          rw [Vals.eval_tmp] at g31
          obtain ⟨gz_31, r31, h31_0, h31_1⟩ := g31
          refine Vals.wpOp_run ho' rfl ?_
          clear hdep hfr ho' hdf
          go_simp
          have hb3 : Below W.heap.size W (W.alloc (.cells #[.int .u8 kj, .int .u8 0, .slice (some ⟨gz_31, 0, none⟩) m m] 41)) := (Below.refl _ _).alloc (Nat.le_refl _) _
          exact hK _ _ (fun j x _ _ h => PkAl_mono hb3 j x h) ⟨hJ.1.trans (hb3.mono hJ.2.1), Nat.le_trans hJ.2.1 hb3.size, fun h => (hJ.2.2.1 (Vals.jlisted (i := 10) h (by decide))).keep hb3, hJ.2.2.2.keep hb3⟩ (fun _ => ⟨_, _, rfl, HSZ.out W hJ.1, arr_new _ _ _, h31_0, h31_1.below hb3⟩)
        | 11, ho, hd =>
          have ho' := ho
          simp only [List.getElem?_toArray, List.getElem?_cons_zero, List.getElem?_cons_succ, Option.some.injEq] at ho hd
          subst ho hd
          have r23 : a.eval (.tmp 23) = .slice a2 j c2 := hdep ⟨1, .data⟩ (by simp) rfl 23 rfl
          rw [Vals.eval_tmp] at r23
          have g32 : ∃ gs_32 gz_32, a.eval (.tmp 32) = .slice (some ⟨gs_32, 0, none⟩) 1 1 ∧ wr.heap.size ≤ gs_32 ∧ Arr W gs_32 41 [.int .u8 kj, .int .u8 0, .slice (some ⟨gz_32, 0, none⟩) m m] ∧ base ≤ gz_32 ∧ Blk W gz_32 (List.replicate m 0) := hdep ⟨10, .data⟩ (by simp) rfl 32 rfl
          rw [Vals.eval_tmp] at g32
          obtain ⟨gs_32, gz_32, r32, h32_0, h32_1, h32_2, h32_3⟩ := g32
          have hrow := hJ.2.2.1 hun
          have hck9 : CkOk W (Ck.mk kj 0 (some ⟨gz_32, 0, none⟩) m m (List.replicate m 0)) := ⟨HKB.out, ⟨Int.le_refl 0, by show (0 : Int) < 256; decide⟩, h32_3.readsAll m (by simp), Byt.rep (by omega) (by omega) _, Nat.le_refl _, by have := HM9.out; show m ≤ maxLen; unfold maxLen; omega⟩
          have hoff9 : OffC 0 W (Ck.mk kj 0 (some ⟨gz_32, 0, none⟩) m m (List.replicate m 0)) := fun _ p hp => .inr ⟨_, by cases hp; exact h32_3⟩
          obtain ⟨aX, cX, W9, hrun, H9⟩ := hrow.add1 hJ.2.1 (by have := HJN.out; omega) gs_32 (Ck.mk kj 0 (some ⟨gz_32, 0, none⟩) m m (List.replicate m 0)) h32_1 hck9
          have hb9 : Below base W W9 := ⟨H9.out.2.os, H9.out.2.tape, H9.out.2.output, H9.out.2.size, fun q hq => H9.out.2.block q (Nat.lt_of_lt_of_le hq hJ.2.1) (fun e => by have := (World.ownsRow.lt hrow.own q e.symm).1; omega)⟩
          have hrow9 := RowC.added hrow hck9 hoff9 H9.out.1 H9.out.2
          have hA9 := grown_arr hrow.own H9.out.2 hJ.2.2.2 HGB.out
          refine Vals.wpOp_run ho' rfl ?_
          clear hdep hfr ho' hdf
          refine Vals.oper_append_run (.tmp 23) (.tmp 32) 23 rfl _ _ _ W9 (by rw [Vals.eval_tmp]; exact r23) (by rw [Vals.eval_tmp]; exact r32) hrun ?_
          exact hK _ _ (fun jj x hlj hji h => PkAl_app hrow HRB.out H9.out.2 hji h) ⟨hJ.1.trans hb9, Nat.le_trans hJ.2.1 H9.out.2.size, fun h => (Vals.jself (by rw [hls]; decide) h).elim, hA9⟩ (fun _ => ⟨_, _, _, rfl, hrow9⟩)
        | 12, ho, hd =>
          have ho' := ho
          simp only [List.getElem?_toArray, List.getElem?_cons_zero, List.getElem?_cons_succ, Option.some.injEq] at ho hd
          subst ho hd
          have r5 : a.eval (.tmp 5) = .pointer (some ⟨gp, 0, none⟩) := hfr 5 (by decide)
          rw [Vals.eval_tmp] at r5
          refine Vals.wpOp_run ho' rfl ?_
          clear hdep hfr ho' hdf
          go_simp
          exact hK _ _ (fun _ _ _ _ h => h) ⟨hJ.1, hJ.2.1, fun h => hJ.2.2.1 (Vals.jlisted (i := 12) h (by decide)), hJ.2.2.2⟩ (fun _ => rfl)
        | i + 13, ho, hd => omega
      case fin =>
        intro listed W fq hall hJ hG
        have q0 : fq 22 = .pointer (some ⟨gp, 1, none⟩) := hG 0 22 rfl
        have q1 : fq 23 = .slice a2 j c2 := hG 1 23 rfl
        have q2 : fq 24 = .slice (some ⟨kb, ko, none⟩) kn kc := hG 2 24 rfl
        have q3 : fq 25 = .int .i64 (j : Int) := hG 3 25 rfl
        have q4 : fq 26 = .pointer (some ⟨kb, ko + j, none⟩) := hG 4 26 rfl
        have q5 : fq 27 = .int .u8 kj := hG 5 27 rfl
        have q6 : fq 28 = .int .i64 (j : Int) := hG 6 28 rfl
        have q7 : fq 29 = .int .i64 (m : Int) := hG 7 29 rfl
        obtain ⟨gz_30, q8, hq30_0, hq30_1⟩ : ∃ gz_30, fq 30 = .slice (some ⟨gz_30, 0, none⟩) m m ∧ base ≤ gz_30 ∧ Blk W gz_30 (List.replicate m 0) := hG 8 30 rfl
        obtain ⟨gz_31, q9, hq31_0, hq31_1⟩ : ∃ gz_31, fq 31 = .agg #[.int .u8 kj, .int .u8 0, .slice (some ⟨gz_31, 0, none⟩) m m] ∧ base ≤ gz_31 ∧ Blk W gz_31 (List.replicate m 0) := hG 9 31 rfl
        obtain ⟨gs_32, gz_32, q10, hq32_0, hq32_1, hq32_2, hq32_3⟩ : ∃ gs_32 gz_32, fq 32 = .slice (some ⟨gs_32, 0, none⟩) 1 1 ∧ wr.heap.size ≤ gs_32 ∧ Arr W gs_32 41 [.int .u8 kj, .int .u8 0, .slice (some ⟨gz_32, 0, none⟩) m m] ∧ base ≤ gz_32 ∧ Blk W gz_32 (List.replicate m 0) := hG 10 32 rfl
        obtain ⟨aX_33, cX_33, gz_33, q11, hq33_0⟩ : ∃ aX_33 cX_33 gz_33, fq 33 = .slice aX_33 (j + 1) cX_33 ∧ RowC 0 base W aX_33 (j + 1) cX_33 (M ++ [(Ck.mk kj 0 (some ⟨gz_33, 0, none⟩) m m (List.replicate m 0))]) := hG 11 33 rfl
        have q12 : fq 34 = .pointer (some ⟨gp, 1, none⟩) := hG 12 34 rfl
        clear hG hall
        refine Vals.wpOp_run rfl rfl ?_
        simp only [Vals.puts, Vals.pairs, List.filterMap_cons, List.filterMap_nil, id, List.map_cons, List.map_nil, List.foldl_cons, List.foldl_nil, q0, q1, q2, q3, q4, q5, q6, q7, q8, q9, q10, q11, q12]
        clear q0 q1 q2 q3 q4 q5 q6 q7 q8 q9 q10 q11 q12
        go_frame
        have hA5 := hJ.2.2.2
        obtain ⟨w6, hw6⟩ : ∃ w6, W.setCell ⟨gp, 1, none⟩ (.slice aX_33 (j + 1) cX_33) = w6 := ⟨_, rfl⟩
        have hA6 : Arr w6 gp 25 [.int .u32 1, .slice aX_33 (j + 1) cX_33] := by rw [← hw6]; exact hA5.set 1 _
        have hR6 : RowC 0 base w6 aX_33 (j + 1) cX_33 (M ++ [(Ck.mk kj 0 (some ⟨gz_33, 0, none⟩) m m (List.replicate m 0))]) := by rw [← hw6]; exact hq33_0.setAt hA5 (by decide) (by decide) (Nat.zero_le _) 1 _
        have hwb : w.heap.size ≤ base := by have := HGB.out; have := HGP.out; omega
        have hB6 : Below w.heap.size w w6 := by rw [← hw6]; exact (HBW.out.trans (hJ.1.mono hwb)).setCell (p := ⟨gp, 1, none⟩) (by show w.heap.size ≤ gp; have := HGP.out; omega) _
        have hS6 : base ≤ w6.heap.size := by rw [← hw6]; simp [World.setCell]; exact hJ.2.1
        have hP6 : pcs (M ++ [(Ck.mk kj 0 (some ⟨gz_33, 0, none⟩) m m (List.replicate m 0))]) = kPs zs (j + 1) := by rw [kPs_succ, ← HM.out]; simp [pcs, Ck.pc, HKV.out.1, HKV.out.2]
        have hcnt := cntA_succ (zs := zs) (j := j) (by rw [HZL.out]; exact hjn)
        rw [HKV.out.1] at hcnt
        have HN := Lib.hid (And.intro hR6 (And.intro hP6 (And.intro hA6 (And.intro hB6 hS6))))
        have HCN := Lib.hid hcnt
        have fr := hA5.free 1
        have y1 := hA5.cell (i := 1) rfl
        have hkd : w6.cell? ⟨kb, ko + j, none⟩ = some (.int .u8 kj) := by
          have hrd := HR.out.1.below hB6
          have h := cells_kind hrd hjn
          rwa [HKV.out.1] at h
        clear hA5 hA6 hR6 hwb hB6 hS6 hP6 hcnt hJ hq33_0 hq32_0 hq32_1 hq32_2 hq32_3 hq31_0 hq31_1 hq30_0 hq30_1
        by_cases hk1 : kj = 1
        · have HAK := Lib.hid (show aloneK kj = true by rw [hk1]; decide)
          have e1 : (kj == 1) = true := by simpa using hk1
          have hcm : ((cntA zs j : Nat) : Int) ≤ 1000 := by have := cntA_le zs j; have := HK100.out; omega
          go_simp
          go_wp2
          exact ⟨⟨j + 1, aX_33, cX_33, M ++ [(Ck.mk kj 0 (some ⟨gz_33, 0, none⟩) m m (List.replicate m 0))], by omega, congrArg (Value.int .i64) (by omega), congrArg (Value.int .i64) (by have h := HCN.out; rw [HAK.out] at h; simp at h; omega), by rw [← HBASE.out]; exact HN.out.1, HN.out.2.1, HN.out.2.2.1, HN.out.2.2.2.1, by rw [← HBASE.out]; exact HN.out.2.2.2.2⟩, by simp [intOf]; omega⟩
        have e1 : (kj == 1) = false := by simpa using hk1
        by_cases hk2 : kj = 2
        · have HAK := Lib.hid (show aloneK kj = true by rw [hk2]; decide)
          have e2 : (kj == 2) = true := by simpa using hk2
          have hcm : ((cntA zs j : Nat) : Int) ≤ 1000 := by have := cntA_le zs j; have := HK100.out; omega
          go_simp
          go_wp2
          exact ⟨⟨j + 1, aX_33, cX_33, M ++ [(Ck.mk kj 0 (some ⟨gz_33, 0, none⟩) m m (List.replicate m 0))], by omega, congrArg (Value.int .i64) (by omega), congrArg (Value.int .i64) (by have h := HCN.out; rw [HAK.out] at h; simp at h; omega), by rw [← HBASE.out]; exact HN.out.1, HN.out.2.1, HN.out.2.2.1, HN.out.2.2.2.1, by rw [← HBASE.out]; exact HN.out.2.2.2.2⟩, by simp [intOf]; omega⟩
        have e2 : (kj == 2) = false := by simpa using hk2
        by_cases hk14 : kj = 14
        · have HAK := Lib.hid (show aloneK kj = true by rw [hk14]; decide)
          have e14 : (kj == 14) = true := by simpa using hk14
          have hcm : ((cntA zs j : Nat) : Int) ≤ 1000 := by have := cntA_le zs j; have := HK100.out; omega
          go_simp
          go_wp2
          exact ⟨⟨j + 1, aX_33, cX_33, M ++ [(Ck.mk kj 0 (some ⟨gz_33, 0, none⟩) m m (List.replicate m 0))], by omega, congrArg (Value.int .i64) (by omega), congrArg (Value.int .i64) (by have h := HCN.out; rw [HAK.out] at h; simp at h; omega), by rw [← HBASE.out]; exact HN.out.1, HN.out.2.1, HN.out.2.2.1, HN.out.2.2.2.1, by rw [← HBASE.out]; exact HN.out.2.2.2.2⟩, by simp [intOf]; omega⟩
        have e14 : (kj == 14) = false := by simpa using hk14
        have HAK := Lib.hid (show aloneK kj = false by unfold aloneK; simp [hk1, hk2, hk14])
        go_simp
        go_wp2
        exact ⟨⟨j + 1, aX_33, cX_33, M ++ [(Ck.mk kj 0 (some ⟨gz_33, 0, none⟩) m m (List.replicate m 0))], by omega, congrArg (Value.int .i64) (by omega), congrArg (Value.int .i64) (by have h := HCN.out; rw [HAK.out] at h; simp at h; omega), by rw [← HBASE.out]; exact HN.out.1, HN.out.2.1, HN.out.2.2.1, HN.out.2.2.2.1, by rw [← HBASE.out]; exact HN.out.2.2.2.2⟩, by simp [intOf]; omega⟩
    · obtain rfl : kn = j := by omega
      have hcle := cntA_le zs kn
      have hmay := kPs_may (zs := zs) (j := kn) (by rw [HZL.out]; exact Nat.le_refl _)
      have hmay2 := kPs_may2 (zs := zs) (j := kn) (by rw [HZL.out]; exact Nat.le_refl _) more
      rw [← HM.out] at hmay hmay2
      obtain ⟨cn, hcn⟩ : ∃ cn, cntA zs kn = cn := ⟨_, rfl⟩
      rw [hcn] at hmay hmay2 hcle ⊢
      obtain ⟨mb, hmb⟩ : ∃ mb, mayB (pcs M) = mb := ⟨_, rfl⟩
      rw [hmb] at hmay
      have HMB := Lib.hid hmb
      have HMY := Lib.hid hmay
      have HMY2 := Lib.hid hmay2
      have HK := HK100.out
      have hsml : ∀ c ∈ pcs M, c.zs.length ≤ 8 := by rw [HM.out]; exact kPs_small
      have hlM : (pcs M).length = kn := by rw [HM.out, kPs_len]
      have hsz1 := sizeP_small hsml
      rw [hlM] at hsz1
      have hbd1 := bodyP_size (L := pcs M) (fun c hc => by have := hsml c hc; omega)
      have hsml2 : ∀ c ∈ pcs M ++ [⟨more, 0, []⟩], c.zs.length ≤ 8 := fun c hc => (List.mem_append.1 hc).elim (hsml c) (fun h => by simp at h; subst h; simp)
      have hsz2 := sizeP_small hsml2
      rw [List.length_append, hlM] at hsz2
      have hbd2 := bodyP_size (L := pcs M ++ [⟨more, 0, []⟩]) (fun c hc => by have := hsml2 c hc; omega)
      have HSZ1 := Lib.hid (show 12 + (bodyP (pcs M)).length ≤ 1099511627776 from by omega)
      have HSZ2 := Lib.hid (show sizeP (pcs M ++ [⟨more, 0, []⟩]) ≤ 1048576 ∧ 12 + (bodyP (pcs M ++ [⟨more, 0, []⟩])).length ≤ 1099511627776 from by simp at hsz2; omega)
      have HWR := Lib.hid (PW 1 a2 kn c2 M wr HROW.out.rows (by omega) (by omega) (by omega) HSZ1.out)
      have HWP := Lib.hid (write_pos 1 (pcs M))
      clear hcn hmb hmay hmay2 hsml hlM hsz1 hbd1 hsml2 hsz2 hbd2
      have hji : decide ((kn : Int) < (kn : Int)) = false := by simp
      go_upto_region 11 with fail
      clear hji
      go_cut [6, 8] from 56 to 67 (fun q s wx => q = .int .i64 (cn : Int) ∧ s = .bool mb ∧ wx = wr)
      case first =>
        go_wp2
        all_goals (go_meet; exact ⟨(by first | rfl | exact congrArg (Value.int .i64) (by omega)), (by rw [HMY.out]; by_cases q0 : 0 < kn <;> by_cases q1 : cn = 0 <;> by_cases q2 : kn = 1 <;> simp [q0, q1, q2] <;> omega), rfl⟩)
      case rest =>
        obtain ⟨rfl, rfl, hwc⟩ := hcut
        obtain rfl : wr = wc := hwc.symm
        have d0 := HAP.out.cell (i := 0) rfl
        have d1 := HAP.out.cell (i := 1) rfl
        go_upto_region 12 with fail
        go_cut [73] from 68 to 73 (fun s wx => s = .bool false ∧ Below wr.heap.size wr wx)
        case first =>
          go_wp2_with fail
          refine HWR.out.mono ?_
          rintro e w3 ⟨a3, c3, rfl, hb3, hr3⟩
          have HB3 := Lib.hid hb3
          have hwp := HWP.out
          rw [HMB.out] at hwp
          clear hb3 hr3 d0 d1 HWR
          generalize (writeP 1 (pcs M)).length = WL at *
          cases mb with
          | false =>
            have hw0 := of_decide_eq_false hwp
            obtain rfl : WL = 0 := by omega
            clear hwp hw0
            go_wp2
            go_meet
            case rel => exact ⟨rfl, HB3.out⟩
          | true =>
            have hw0 : (0 : Int) < (WL : Int) := of_decide_eq_true hwp
            have hw1 : 0 < WL := by omega
            clear hwp
            go_wp2
            go_meet
            case rel => exact ⟨rfl, HB3.out⟩
        case rest =>
          obtain ⟨rfl, hbc⟩ := hcut
          have HBC := Lib.hid hbc
          clear d0 d1 HWR HWP hbc
          have hb4 : Below wc.heap.size wc (wc.alloc (.cells #[.int .u8 more, .int .u8 0, .slice none 0 0] 41)) := (Below.refl _ _).alloc (Nat.le_refl _) _
          have hC4 : Arr (wc.alloc (.cells #[.int .u8 more, .int .u8 0, .slice none 0 0] 41)) wc.heap.size 41 [.int .u8 more, .int .u8 0, .slice none 0 0] := arr_new _ _ _
          have hs4 : (wc.alloc (.cells #[.int .u8 more, .int .u8 0, .slice none 0 0] 41)).heap.size = wc.heap.size + 1 := by simp
          have hbc4 := HBC.out.trans (hb4.mono HBC.out.size)
          have H4 := Lib.hid (And.intro (HROW.out.keep hbc4) (And.intro (HAP.out.keep hbc4) (And.intro (HBW.out.trans (hbc4.mono HBW.out.size)) (And.intro hC4 (show wr.heap.size ≤ wc.heap.size from HBC.out.size)))))
          go_upto_region 15 with fail
          generalize (wc.alloc (.cells #[.int .u8 more, .int .u8 0, .slice none 0 0] 41)) = w4 at *
          generalize hgc : wc.heap.size = gc at *
          have HGC := Lib.hid (And.intro hgc hs4)
          clear hb4 hC4 hs4 hbc4 hgc
          go_cut [85] from 76 to 85 (fun s wx => s = .bool (aloneK more) ∧ wx = w4)
          case first =>
            by_cases k1 : more = 1
            · have e1 : (more == 1) = true := by simpa using k1
              have HV := Lib.hid (show aloneK more = true by rw [k1]; decide)
              clear k1
              go_wp2
              go_meet
              case rel => exact ⟨by rw [HV.out], rfl⟩
            have e1 : (more == 1) = false := by simpa using k1
            by_cases k2 : more = 2
            · have e2 : (more == 2) = true := by simpa using k2
              have HV := Lib.hid (show aloneK more = true by rw [k2]; decide)
              clear k1 k2
              go_wp2
              go_meet
              case rel => exact ⟨by rw [HV.out], rfl⟩
            have e2 : (more == 2) = false := by simpa using k2
            by_cases k3 : more = 14
            · have e3 : (more == 14) = true := by simpa using k3
              have HV := Lib.hid (show aloneK more = true by rw [k3]; decide)
              clear k1 k2 k3
              go_wp2
              go_meet
              case rel => exact ⟨by rw [HV.out], rfl⟩
            have e3 : (more == 14) = false := by simpa using k3
            have HV := Lib.hid (show aloneK more = false by unfold aloneK; simp [k1, k2, k3])
            clear k1 k2 k3
            go_wp2
            go_meet
            case rel => exact ⟨by rw [HV.out], rfl⟩
          case rest =>
            obtain ⟨rfl, hwc⟩ := hcut
            obtain rfl : w4 = wc := hwc.symm
            have d0 := H4.out.2.1.cell (i := 0) rfl
            have d1 := H4.out.2.1.cell (i := 1) rfl
            have e0 := H4.out.2.2.2.1.cell (i := 0) rfl
            have e1 := H4.out.2.2.2.1.cell (i := 1) rfl
            have e2 := H4.out.2.2.2.1.cell (i := 2) rfl
            obtain ⟨mb2, hmb2⟩ : ∃ x, mayB (pcs M ++ [⟨more, 0, []⟩]) = x := ⟨_, rfl⟩
            have hm2 := HMY2.out
            rw [hmb2] at hm2
            have HM2 := Lib.hid hm2
            have hfb : fitsB (pcs M) ⟨more, 0, []⟩ 1048576 = mb2 := by unfold fitsB; rw [hmb2, decide_eq_true (by have := HSZ2.out.1; omega), Bool.and_true]
            have hck : CkOk w4 (Ck.mk more 0 none 0 0 []) := ⟨⟨mo0, mo1⟩, ⟨Int.le_refl 0, by show (0 : Int) < 256; decide⟩, Reads.zero _ _, Byt.nil, Nat.le_refl _, Nat.zero_le _⟩
            have hpf := PF 1 a2 kn c2 M (Ck.mk more 0 none 0 0 []) 1048576 w4 H4.out.1.rows hck (by omega) (by have h := HSZ2.out.1; exact Nat.le_trans h (by decide)) (by omega) (by omega)
            rw [show (Ck.mk more 0 none 0 0 []).pc = ⟨more, 0, []⟩ from rfl, hfb] at hpf
            have HPF := Lib.hid hpf
            have HMB2 := Lib.hid hmb2
            have HCK := Lib.hid hck
            clear hmb2 hm2 hfb hck hpf
            cases hal : aloneK more with
            | false =>
              have hm2 := HM2.out
              rw [hal] at hm2
              have HM3 := Lib.hid hm2
              clear hal hm2
              go_wp2_with fail
              refine HPF.out.mono ?_
              rintro e w5 ⟨rfl, hb5⟩
              have H5 := Lib.hid (And.intro (H4.out.1.keep hb5) (And.intro (H4.out.2.1.keep hb5) (And.intro (H4.out.2.2.1.trans (hb5.mono H4.out.2.2.1.size)) (And.intro (H4.out.2.2.2.1.keep hb5) (And.intro hb5.size (HCK.out.below hb5))))))
              clear hb5 HPF d0 d1 e0 e1 e2
              go_upto_region 18 with fail
              go_cut [6, 10, 99] from 91 to 99 (fun q p s wx => p = .bool mb2 ∧ s = .bool false ∧ wx = w5)
              case first =>
                go_wp2
                all_goals (go_meet; exact ⟨rfl, (by rw [HM3.out]; by_cases q1 : cn = 0 <;> by_cases q2 : kn = 0 <;> simp [q1, q2] <;> omega), rfl⟩)
              case rest =>
                obtain ⟨rfl, rfl, hwc⟩ := hcut
                obtain rfl : w5 = wc := hwc.symm
                have hb6 : Below w5.heap.size w5 (w5.alloc (.cells #[.int .u8 more, .int .u8 0, .slice none 0 0] 41)) := (Below.refl _ _).alloc (Nat.le_refl _) _
                have hA6 : Arr (w5.alloc (.cells #[.int .u8 more, .int .u8 0, .slice none 0 0] 41)) w5.heap.size 41 (Ck.mk more 0 none 0 0 []).cells := arr_new _ _ _
                have hrow6 := H5.out.1.keep hb6
                have hck6 := H5.out.2.2.2.2.2.below hb6
                have hoff6 : OffC 0 (w5.alloc (.cells #[.int .u8 more, .int .u8 0, .slice none 0 0] 41)) (Ck.mk more 0 none 0 0 []) := fun h => absurd h (Nat.lt_irrefl 0)
                have hsz5 : w1.heap.size ≤ w5.heap.size := by have h1 := H4.out.2.2.2.2; have h2 := H5.out.2.2.2.2.1; have h3 := HGC.out; omega
                obtain ⟨a7, c7, W7, hrun, H7⟩ := hrow6.add1 (Nat.le_trans hsz5 hb6.size) (by omega) w5.heap.size (Ck.mk more 0 none 0 0 []) hA6 hck6
                have hrow7 := RowC.added hrow6 hck6 hoff6 H7.out.1 H7.out.2
                have hP6 := H5.out.2.1.keep hb6
                have hP7 := grown_arr hrow6.own H7.out.2 hP6 (by have := H1.out.2.2; omega)
                have hbw6 := H5.out.2.2.1.trans (hb6.mono H5.out.2.2.1.size)
                have hbw7 : Below w.heap.size w W7 := ⟨H7.out.2.os.trans hbw6.os, H7.out.2.tape.trans hbw6.tape, H7.out.2.output.trans hbw6.output, Nat.le_trans hbw6.size H7.out.2.size, fun q hq => (H7.out.2.block q (Nat.lt_of_lt_of_le hq hbw6.size) (fun e => by have := (World.ownsRow.lt hrow6.own q e.symm).1; have := H1.out.2.2; have := HGP.out; omega)).trans (hbw6.block q hq)⟩
                obtain ⟨w8, hw8⟩ : ∃ x, W7.setCell ⟨gp, 1, none⟩ (.slice a7 (kn + 1) c7) = x := ⟨_, rfl⟩
                have hP8 : Arr w8 gp 25 [.int .u32 1, .slice a7 (kn + 1) c7] := by rw [← hw8]; exact hP7.set 1 _
                have hR8 : RowC 0 w1.heap.size w8 a7 (kn + 1) c7 (M ++ [Ck.mk more 0 none 0 0 []]) := by rw [← hw8]; exact hrow7.setAt hP7 (by decide) (by decide) (Nat.zero_le _) 1 _
                have hB8 : Below w.heap.size w w8 := by rw [← hw8]; exact hbw7.setCell (p := ⟨gp, 1, none⟩) (by show w.heap.size ≤ gp; have := HGP.out; omega) _
                have hp8 : pcs (M ++ [Ck.mk more 0 none 0 0 []]) = pcs M ++ [⟨more, 0, []⟩] := by simp [pcs, Ck.pc]
                have hwr := PW 1 a7 (kn + 1) c7 _ w8 hR8.rows (by omega) (by omega) (by omega) (by rw [hp8]; exact HSZ2.out.2)
                have hwp := write_pos 1 (pcs (M ++ [Ck.mk more 0 none 0 0 []]))
                rw [hp8] at hwr hwp
                rw [HMB2.out] at hwp
                have HWR2 := Lib.hid hwr
                have HWP2 := Lib.hid hwp
                have HB8 := Lib.hid hB8
                have HRUN := Lib.hid hrun
                have d0 := H5.out.2.1.cell (i := 0) rfl
                have d1 := H5.out.2.1.cell (i := 1) rfl
                have e0 := H5.out.2.2.2.1.cell (i := 0) rfl
                have e1 := H5.out.2.2.2.1.cell (i := 1) rfl
                have e2 := H5.out.2.2.2.1.cell (i := 2) rfl
                have p0 := hP7.cell (i := 0) rfl
                have p1 := hP7.cell (i := 1) rfl
                have fr := hP7.free 1
                have r0 := hP8.cell (i := 0) rfl
                have r1 := hP8.cell (i := 1) rfl
                clear hb6 hA6 hrow6 hck6 hoff6 hrun H7 hrow7 hP6 hP7 hbw6 hbw7 hP8 hR8 hB8 hp8 hwr hwp hsz5
                go_wp2_with (at_builtin; refine wpList_append_run rfl _ _ _ rfl _ _ _ _ rfl rfl HRUN.out ?_)
                refine HWR2.out.mono ?_
                rintro e w9 ⟨a9, c9, rfl, hb9, hr9⟩
                have HB9 := Lib.hid (HB8.out.trans (hb9.mono HB8.out.size))
                have hwp := HWP2.out
                clear hb9 hr9 HWR2 HWP2 HB8
                generalize (writeP 1 (pcs M ++ [⟨more, 0, []⟩])).length = WL at *
                cases mb2 with
                | false =>
                  have hw0 := of_decide_eq_false hwp
                  obtain rfl : WL = 0 := by omega
                  clear hwp hw0
                  go_wp2_with fail
                  refine (WK w9).mono ?_
                  rintro e w' ⟨rfl, hb'⟩
                  have HF := Lib.hid (HB9.out.trans (hb'.mono HB9.out.size))
                  clear hb'
                  go_wp2
                  go_ret
                  exact ⟨rfl, HF.out⟩
                | true =>
                  have hw0 : (0 : Int) < (WL : Int) := of_decide_eq_true hwp
                  have hw1 : 0 < WL := by omega
                  clear hwp
                  go_wp2_with fail
                  refine (WK w9).mono ?_
                  rintro e w' ⟨rfl, hb'⟩
                  have HF := Lib.hid (HB9.out.trans (hb'.mono HB9.out.size))
                  clear hb'
                  go_wp2
                  go_ret
                  exact ⟨rfl, HF.out⟩
            | true =>
              have hm2 := HM2.out
              rw [hal] at hm2
              have HM3 := Lib.hid hm2
              clear hal hm2
              go_wp2_with fail
              refine HPF.out.mono ?_
              rintro e w5 ⟨rfl, hb5⟩
              have H5 := Lib.hid (And.intro (H4.out.1.keep hb5) (And.intro (H4.out.2.1.keep hb5) (And.intro (H4.out.2.2.1.trans (hb5.mono H4.out.2.2.1.size)) (And.intro (H4.out.2.2.2.1.keep hb5) (And.intro hb5.size (HCK.out.below hb5))))))
              clear hb5 HPF d0 d1 e0 e1 e2
              go_upto_region 18 with fail
              go_cut [6, 10, 99] from 91 to 99 (fun q p s wx => p = .bool mb2 ∧ s = .bool false ∧ wx = w5)
              case first =>
                go_wp2
                all_goals (go_meet; exact ⟨rfl, (by rw [HM3.out]; by_cases q1 : cn = 0 <;> by_cases q2 : kn = 0 <;> simp [q1, q2] <;> omega), rfl⟩)
              case rest =>
                obtain ⟨rfl, rfl, hwc⟩ := hcut
                obtain rfl : w5 = wc := hwc.symm
                have hb6 : Below w5.heap.size w5 (w5.alloc (.cells #[.int .u8 more, .int .u8 0, .slice none 0 0] 41)) := (Below.refl _ _).alloc (Nat.le_refl _) _
                have hA6 : Arr (w5.alloc (.cells #[.int .u8 more, .int .u8 0, .slice none 0 0] 41)) w5.heap.size 41 (Ck.mk more 0 none 0 0 []).cells := arr_new _ _ _
                have hrow6 := H5.out.1.keep hb6
                have hck6 := H5.out.2.2.2.2.2.below hb6
                have hoff6 : OffC 0 (w5.alloc (.cells #[.int .u8 more, .int .u8 0, .slice none 0 0] 41)) (Ck.mk more 0 none 0 0 []) := fun h => absurd h (Nat.lt_irrefl 0)
                have hsz5 : w1.heap.size ≤ w5.heap.size := by have h1 := H4.out.2.2.2.2; have h2 := H5.out.2.2.2.2.1; have h3 := HGC.out; omega
                obtain ⟨a7, c7, W7, hrun, H7⟩ := hrow6.add1 (Nat.le_trans hsz5 hb6.size) (by omega) w5.heap.size (Ck.mk more 0 none 0 0 []) hA6 hck6
                have hrow7 := RowC.added hrow6 hck6 hoff6 H7.out.1 H7.out.2
                have hP6 := H5.out.2.1.keep hb6
                have hP7 := grown_arr hrow6.own H7.out.2 hP6 (by have := H1.out.2.2; omega)
                have hbw6 := H5.out.2.2.1.trans (hb6.mono H5.out.2.2.1.size)
                have hbw7 : Below w.heap.size w W7 := ⟨H7.out.2.os.trans hbw6.os, H7.out.2.tape.trans hbw6.tape, H7.out.2.output.trans hbw6.output, Nat.le_trans hbw6.size H7.out.2.size, fun q hq => (H7.out.2.block q (Nat.lt_of_lt_of_le hq hbw6.size) (fun e => by have := (World.ownsRow.lt hrow6.own q e.symm).1; have := H1.out.2.2; have := HGP.out; omega)).trans (hbw6.block q hq)⟩
                obtain ⟨w8, hw8⟩ : ∃ x, W7.setCell ⟨gp, 1, none⟩ (.slice a7 (kn + 1) c7) = x := ⟨_, rfl⟩
                have hP8 : Arr w8 gp 25 [.int .u32 1, .slice a7 (kn + 1) c7] := by rw [← hw8]; exact hP7.set 1 _
                have hR8 : RowC 0 w1.heap.size w8 a7 (kn + 1) c7 (M ++ [Ck.mk more 0 none 0 0 []]) := by rw [← hw8]; exact hrow7.setAt hP7 (by decide) (by decide) (Nat.zero_le _) 1 _
                have hB8 : Below w.heap.size w w8 := by rw [← hw8]; exact hbw7.setCell (p := ⟨gp, 1, none⟩) (by show w.heap.size ≤ gp; have := HGP.out; omega) _
                have hp8 : pcs (M ++ [Ck.mk more 0 none 0 0 []]) = pcs M ++ [⟨more, 0, []⟩] := by simp [pcs, Ck.pc]
                have hwr := PW 1 a7 (kn + 1) c7 _ w8 hR8.rows (by omega) (by omega) (by omega) (by rw [hp8]; exact HSZ2.out.2)
                have hwp := write_pos 1 (pcs (M ++ [Ck.mk more 0 none 0 0 []]))
                rw [hp8] at hwr hwp
                rw [HMB2.out] at hwp
                have HWR2 := Lib.hid hwr
                have HWP2 := Lib.hid hwp
                have HB8 := Lib.hid hB8
                have HRUN := Lib.hid hrun
                have d0 := H5.out.2.1.cell (i := 0) rfl
                have d1 := H5.out.2.1.cell (i := 1) rfl
                have e0 := H5.out.2.2.2.1.cell (i := 0) rfl
                have e1 := H5.out.2.2.2.1.cell (i := 1) rfl
                have e2 := H5.out.2.2.2.1.cell (i := 2) rfl
                have p0 := hP7.cell (i := 0) rfl
                have p1 := hP7.cell (i := 1) rfl
                have fr := hP7.free 1
                have r0 := hP8.cell (i := 0) rfl
                have r1 := hP8.cell (i := 1) rfl
                clear hb6 hA6 hrow6 hck6 hoff6 hrun H7 hrow7 hP6 hP7 hbw6 hbw7 hP8 hR8 hB8 hp8 hwr hwp hsz5
                go_wp2_with (at_builtin; refine wpList_append_run rfl _ _ _ rfl _ _ _ _ rfl rfl HRUN.out ?_)
                refine HWR2.out.mono ?_
                rintro e w9 ⟨a9, c9, rfl, hb9, hr9⟩
                have HB9 := Lib.hid (HB8.out.trans (hb9.mono HB8.out.size))
                have hwp := HWP2.out
                clear hb9 hr9 HWR2 HWP2 HB8
                generalize (writeP 1 (pcs M ++ [⟨more, 0, []⟩])).length = WL at *
                cases mb2 with
                | false =>
                  have hw0 := of_decide_eq_false hwp
                  obtain rfl : WL = 0 := by omega
                  clear hwp hw0
                  go_wp2_with fail
                  refine (WK w9).mono ?_
                  rintro e w' ⟨rfl, hb'⟩
                  have HF := Lib.hid (HB9.out.trans (hb'.mono HB9.out.size))
                  clear hb'
                  go_wp2
                  go_ret
                  exact ⟨rfl, HF.out⟩
                | true =>
                  have hw0 : (0 : Int) < (WL : Int) := of_decide_eq_true hwp
                  have hw1 : 0 < WL := by omega
                  clear hwp
                  go_wp2_with fail
                  refine (WK w9).mono ?_
                  rintro e w' ⟨rfl, hb'⟩
                  have HF := Lib.hid (HB9.out.trans (hb'.mono HB9.out.size))
                  clear hb'
                  go_wp2
                  go_ret
                  exact ⟨rfl, HF.out⟩
end Go.Proofs.Ytnndlpbbllmpjaa
