/-
  Stage 10: slices.Grow and slices.Concat of chunks, and the program's Fits.
-/
import Derived.Test.YtnndlpbbllmpjaaPkP1
import Derived.Lib.AppendZeros
import Derived.Deep.MidRow
namespace Go.Proofs.Ytnndlpbbllmpjaa
open Go.RowKit
set_option linter.unusedVariables false
set_option linter.unusedSimpArgs false

theorem cutck_size (W : World) : (sizeOf 41).run Try.prog W = .ok 3 W := by
  have h : (Try.prog.info? 41).map (·.size) = some 3 := by kernel_rfl
  cases hq : Try.prog.info? 41 with
  | none => simp [hq] at h
  | some i => simp [hq] at h; simp [sizeOf, typeInfo, hq, h]
theorem cutck_elem : Try.prog.elem 23 = 41 := by kernel_rfl
/-- 's[:0]'. -/
theorem cutck_none (W : World) : (Instr.slice 23 (.slice none 0 0) none (some (.int .i64 0)) none).run Try.prog W = .ok (.slice none 0 0) W := by
  have h := run_slice_h (P := Try.prog) W 23 none 0 0 (by kernel_rfl) .i64 0 (by omega) (by omega)
  rw [h, cutck_elem, cutck_size]
  simp [Result.andThen, sliced]
theorem cutck_0 (g n c : Nat) (W : World) : (Instr.slice 23 (.slice (some ⟨g, 0, none⟩) n c) none (some (.int .i64 0)) none).run Try.prog W = .ok (.slice (some ⟨g, 0, none⟩) 0 c) W := by
  have h := run_slice_h (P := Try.prog) W 23 (some ⟨g, 0, none⟩) n c (by kernel_rfl) .i64 0 (by omega) (by omega)
  rw [h, cutck_elem, cutck_size]
  by_cases hc : c = 0 <;> simp [Result.andThen, sliced, Addr.add, hc]
theorem zeroCells_size (z : Value) (n : Nat) : (Builtin.zeroCells z.cells n).size = n * z.cells.size := by simp [Builtin.zeroCells]

/-- What 'append(nil, make(.., n)...)' makes is a row without chunks, cut at 0. -/
theorem grow_row (w : World) (B n : Nat) (h0 : 0 < n) (hn : n ≤ 1048576) (hB : B ≤ w.heap.size) :
    ∃ c W, (Builtin.append_ #[23, 3] 23 #[.slice none 0 0, .int .i64 n]).run Try.prog w = .ok (.slice (some ⟨w.heap.size, 0, none⟩) n c) W ∧
      RowKit.Hid (RowC B w.heap.size W (some ⟨w.heap.size, 0, none⟩) 0 c [] ∧ Below w.heap.size w W) := by
  obtain ⟨i0, hi0, hz⟩ := Option.map_eq_some_iff.1 Try.infoCk
  simp only [Prod.mk.injEq] at hz
  obtain ⟨hz0, hz1, hz2⟩ := hz
  have hrun := Go.Lib.run_append_nil_zeros (P := Try.prog) w 23 3 23 41 i0 (.agg #[.int .u8 0, .int .u8 0, .slice none 0 0]) .i64 .i64 Try.underlying23 Try.underlying3 hi0 hz0 n h0 (by rw [hz1]; decide) (by omega) (by rw [hz2]; omega)
  have hge := grownCap_ge w n 0 41
  have hcm := grownCap_le_maxLen w n 0 41 (by unfold maxLen; omega)
  refine ⟨_, _, hrun, Lib.hid ⟨⟨⟨rfl, .inr ⟨w.heap.size, _, _, rfl, Nat.le_refl _, (by rw [show w.heap.size = w.drew.heap.size from rfl]; exact heap_alloc_new _ _), Nat.zero_le _, hcm, ?_, by simp [ckC]⟩⟩, (fun r hr => by cases hr), (fun r hr => by cases hr), hB⟩, ((Below.refl _ _).drew).alloc (Nat.le_refl _) _⟩⟩
  rw [Array.size_append, zeroCells_size, zeroCells_size]
  have e : (Value.agg #[.int .u8 0, .int .u8 0, .slice none 0 0]).cells.size = 3 := by decide
  rw [e, ← Nat.add_mul]
  congr 1
  omega

set_option maxRecDepth 4000 in
set_option maxHeartbeats 400000 in
theorem grow_any (w : World) (B n : Nat) (h0 : 0 < n) (hn : n ≤ 1048576) (hB : B ≤ w.heap.size) :
    Calls Try.prog 60 #[.slice none 0 0, .int .i64 n] w fun e w' => ∃ a' c, e = .returned (.slice a' 0 c) ∧ RowC B w.heap.size w' a' 0 c [] ∧ Below w.heap.size w w' := by
  obtain ⟨c, W, hrun, H⟩ := grow_row w B n h0 hn hB
  have HRUN := Lib.hid hrun
  have hc0 := cutck_none w
  have hc1 := cutck_0 w.heap.size n c W
  have hn0 : (0 : Int) < (n : Int) := by omega
  clear hrun
  go_enter Try.func60, Try.ntmps60
  go_wp2_with (at_builtin; refine Go.Lib.wpList_append_run _ rfl _ _ _ _ rfl _ _ rfl rfl _ _ HRUN.out ?_)
  go_ret
  exact ⟨_, _, rfl, H.out.1, H.out.2⟩

theorem ckC_app (L M : List Ck) : ckC (L ++ M) = ckC L ++ ckC M := by simp [ckC]
/-- 'append' of chunks onto a row of the call's own. -/
theorem RowC.appends {B base : Nat} {w : World} {a : Option Addr} {n c : Nat} {L : List Ck} (h : RowC B base w a n c L) (hb : base ≤ w.heap.size) (q : Option Addr) (m c2 : Nat) (M : List Ck) (hM : RowsCk w q m c2 M) (ho : ∀ r ∈ M, OffC B w r) (hn : n + m ≤ 1048576) :
    ∃ a' c' W3, (Builtin.append_ #[23, 23] 23 #[.slice a n c, .slice q m c2]).run Try.prog w = .ok (.slice a' (n + m) c') W3 ∧ RowKit.Hid (RowC B base W3 a' (n + m) c' (L ++ M) ∧ w.grownBy W3 (Value.slice a n c).ownBlock) := by
  obtain ⟨i0, hi0, hz⟩ := Option.map_eq_some_iff.1 Try.infoCk
  simp only [Prod.mk.injEq] at hz
  obtain ⟨hz0, hz1, hz2⟩ := hz
  by_cases h0 : m = 0
  · subst h0
    have hp : M = [] := List.eq_nil_of_length_eq_zero hM.hlen
    subst hp
    exact ⟨a, c, w, run_append_zero w _ _ i0 Try.underlying23 hi0 a q n c c2 h.rows.hle, Lib.hid ⟨by simpa using h, ⟨rfl, rfl, rfl, Nat.le_refl _, fun k _ _ => rfl⟩⟩⟩
  · obtain ⟨b, off, r, hq, _⟩ := hM.get (i := 0) (by omega)
    subst hq
    obtain ⟨v', W3, hrun, hown, hg, _⟩ := run_append_own (P := Try.prog) w base 23 23 41 i0 (.agg #[.int .u8 0, .int .u8 0, .slice none 0 0]) 3 32 Try.underlying23 hi0 hz0 hz1 hz2 rfl (by decide) (.slice a n c) n (ckC L) h.own ⟨b, off, none⟩ m c2 (ckC M) (by rw [ckC_len, hM.hlen])
      (fun j u hu => hM.cellsAt rfl j u hu) (ckC_one M) (by unfold maxLen; omega) (by omega) hb
    rw [← ckC_app] at hown
    obtain ⟨a', c', rfl⟩ := slice_of_owns hown
    have hrow : ∀ q ∈ L ++ M, CkOk w q := fun q hq => (List.mem_append.1 hq).elim (h.row q) (hM.row q)
    have hoff : ∀ q ∈ L ++ M, OffC B w q := fun q hq => (List.mem_append.1 hq).elim (h.off q) (ho q)
    have hlt : ∀ q ∈ L ++ M, 0 < q.n → ∀ p, q.a = some p → p.block < w.heap.size := fun q hq hn p hp => by
      rcases (hrow q hq).reads.2 with h1 | ⟨b, off, ha, hlt, _⟩
      · omega
      · rw [ha] at hp; cases hp; exact hlt
    refine ⟨a', c', W3, hrun, Lib.hid ⟨⟨hown, fun q hq => (hrow q hq).of_block hg.size (fun hn p hp => hg.block _ (hlt q hq hn p hp) (h.apart (hoff q hq) hn hp)), fun q hq hn p hp => ?_, h.le⟩, hg⟩⟩
    rcases hoff q hq hn p hp with h1 | ⟨cs, h1⟩
    · exact .inl h1
    · exact .inr ⟨cs, (hg.block _ (hlt q hq hn p hp) (h.apart (hoff q hq) hn hp)).trans h1⟩
theorem RowC.below {B base : Nat} {w0 w w' : World} {a : Option Addr} {n c : Nat} {L : List Ck} (h : RowC B base w a n c L) (hg : w.grownBy w' (Value.slice a n c).ownBlock) (hb : Below w0.heap.size w0 w) (hbs : w0.heap.size ≤ base) : Below w0.heap.size w0 w' :=
  ⟨hg.os.trans hb.os, hg.tape.trans hb.tape, hg.output.trans hb.output, Nat.le_trans hb.size hg.size, fun q hq => (hg.block q (Nat.lt_of_lt_of_le hq hb.size) (fun e => by have := (World.ownsRow.lt h.own q e.symm).1; omega)).trans (hb.block q hq)⟩
theorem rows_one {w : World} {g : Nat} {r : Ck} (h : Arr w g 41 r.cells) (hr : CkOk w r) : RowsCk w (some ⟨g, 0, none⟩) 1 1 [r] := by
  refine ⟨rfl, Nat.le_refl _, by decide, .inr ⟨g, 0, rfl, h.lt, fun i q hq => ?_⟩, fun q hq => by simp at hq; subst hq; exact hr⟩
  have hi : i = 0 := by have := (List.getElem?_eq_some_iff.1 hq).1; simpa using this
  subst hi
  simp at hq
  subst hq
  exact ⟨h.cell (i := 0) rfl, h.cell (i := 1) rfl, h.cell (i := 2) rfl⟩

set_option maxRecDepth 4000 in
set_option maxHeartbeats 1600000 in
theorem concat_any (B gS gB : Nat) (a : Option Addr) (n c : Nat) (L : List Ck) (r : Ck) (w : World) (hS : Arr w gS 23 [.slice a n c, .slice (some ⟨gB, 0, none⟩) 1 1]) (hL : RowsCk w a n c L) (hC : Arr w gB 41 r.cells) (hr : CkOk w r) (hn : n ≤ 1048575) (hB : B ≤ w.heap.size) (ho : ∀ q ∈ L ++ [r], OffC B w q) :
    Calls Try.prog 46 #[.slice (some ⟨gS, 0, none⟩) 2 2] w fun e w' => ∃ a' c', e = .returned (.slice a' (n + 1) c') ∧ RowC B w.heap.size w' a' (n + 1) c' (L ++ [r]) ∧ Below w.heap.size w w' := by
  have HS := Lib.hid hS
  have HL := Lib.hid hL
  have HC := Lib.hid (And.intro hC hr)
  have HO := Lib.hid ho
  have s0 := hS.cell (i := 0) rfl
  have s1 := hS.cell (i := 1) rfl
  clear hS hL hC hr ho
  go_enter Try.func46, Try.ntmps46
  go_wp2
  go_loop [3, 11] (fun s i => (i = .int .i64 0 ∧ s = .int .i64 0) ∨ (i = .int .i64 1 ∧ s = .int .i64 (n : Int)) ∨ (i = .int .i64 2 ∧ s = .int .i64 ((n : Int) + 1))) (fun _ i => 2 - (intOf i).toNat)
  case atStart => exact .inl ⟨rfl, rfl⟩
  case round =>
    rcases hrel with ⟨rfl, rfl⟩ | ⟨rfl, rfl⟩ | ⟨rfl, rfl⟩
    · go_wp2
      exact ⟨.inr (.inl ⟨rfl, rfl⟩), by simp [intOf]⟩
    · go_wp2
      exact ⟨.inr (.inr ⟨rfl, rfl⟩), by simp [intOf]⟩
    · have hg : Calls Try.prog 60 #[.slice none 0 0, .int .i64 ((n : Int) + 1)] w fun e w' => ∃ a' c, e = .returned (.slice a' 0 c) ∧ RowC B w.heap.size w' a' 0 c [] ∧ Below w.heap.size w w' := by
        have h := grow_any w B (n + 1) (by omega) (by omega) hB
        rwa [show (((n + 1 : Nat)) : Int) = (n : Int) + 1 by omega] at h
      have HG := Lib.hid hg
      clear hg s0 s1
      go_wp2_with fail
      refine HG.out.mono ?_
      rintro e w2 ⟨a2, c2, rfl, hrow2, hb2⟩
      have H2 := Lib.hid (And.intro hrow2 hb2)
      clear hrow2 hb2 HG
      go_wp2
      go_loopw [6, 27] (fun v i wr => Below w.heap.size w wr ∧ ((i = .int .i64 0 ∧ ∃ a2 c2, v = .slice a2 0 c2 ∧ RowC B w.heap.size wr a2 0 c2 []) ∨ (i = .int .i64 1 ∧ ∃ a2 c2, v = .slice a2 n c2 ∧ RowC B w.heap.size wr a2 n c2 L) ∨ (i = .int .i64 2 ∧ ∃ a2 c2, v = .slice a2 (n + 1) c2 ∧ RowC B w.heap.size wr a2 (n + 1) c2 (L ++ [r])))) (fun _ i _ => 2 - (intOf i).toNat)
      case atStart => exact ⟨H2.out.2, .inl ⟨rfl, a2, c2, rfl, H2.out.1⟩⟩
      case round =>
        obtain ⟨hbw, hcase⟩ := hrel
        have HBW := Lib.hid hbw
        have s0 := (HS.out.keep hbw).cell (i := 0) rfl
        have s1 := (HS.out.keep hbw).cell (i := 1) rfl
        clear hbw H2
        rcases hcase with ⟨rfl, a3, c3, rfl, hrow⟩ | ⟨rfl, a3, c3, rfl, hrow⟩ | ⟨rfl, a3, c3, rfl, hrow⟩
        · obtain ⟨a4, c4, W3, hrun, H4⟩ := hrow.appends HBW.out.size a n c L (HL.out.below HBW.out) (fun q hq => (HO.out q (by simp [hq])).of (fun k cs hk => HBW.out.block k (Array.getElem?_eq_some_iff.1 hk).1)) (by omega)
          rw [Nat.zero_add, List.nil_append] at H4
          rw [Nat.zero_add] at hrun
          have HRUN := Lib.hid hrun
          have HB4 := Lib.hid (hrow.below H4.out.2 HBW.out (Nat.le_refl _))
          clear hrun hrow
          go_wp2_with (at_builtin; refine wpList_append_run rfl _ _ _ rfl _ _ _ _ rfl rfl HRUN.out ?_)
          exact ⟨⟨HB4.out, .inr (.inl ⟨rfl, a4, c4, rfl, H4.out.1⟩)⟩, by simp [intOf]⟩
        · obtain ⟨a4, c4, W3, hrun, H4⟩ := hrow.appends HBW.out.size (some ⟨gB, 0, none⟩) 1 1 [r] (rows_one (HC.out.1.keep HBW.out) (HC.out.2.below HBW.out)) (fun q hq => (HO.out q (by simp at hq; simp [hq])).of (fun k cs hk => HBW.out.block k (Array.getElem?_eq_some_iff.1 hk).1)) (by omega)
          have HRUN := Lib.hid hrun
          have HB4 := Lib.hid (hrow.below H4.out.2 HBW.out (Nat.le_refl _))
          clear hrun hrow
          go_wp2_with (at_builtin; refine wpList_append_run rfl _ _ _ rfl _ _ _ _ rfl rfl HRUN.out ?_)
          exact ⟨⟨HB4.out, .inr (.inr ⟨rfl, a4, c4, rfl, H4.out.1⟩)⟩, by simp [intOf]⟩
        · have HR3 := Lib.hid hrow
          clear hrow s0 s1
          go_wp2
          go_ret
          exact ⟨a3, c3, rfl, HR3.out, HBW.out⟩

set_option maxRecDepth 100000 in
set_option maxHeartbeats 1600000 in
theorem pfits_any (tag : Int) (a : Option Addr) (n c : Nat) (L : List Ck) (r : Ck) (mtu : Int) (w : World) (h : RowsCk w a n c L) (hr : CkOk w r) (hn : n ≤ 1048575) (hs : sizeP (pcs L ++ [r.pc]) ≤ 4611686018427387903) (hm0 : -9223372036854775808 ≤ mtu) (hm1 : mtu ≤ 9223372036854775807) :
    Calls Try.prog 25 #[.agg #[.int .u32 tag, .slice a n c], .agg #[.int .u8 r.k, .int .u8 r.f, .slice r.a r.n r.c], .int .i64 mtu] w fun e w' => e = .returned (.bool (fitsB (pcs L) r.pc mtu)) ∧ Below w.heap.size w w' := by
  obtain ⟨w0, hw0⟩ : ∃ w0, w.alloc (.cells #[.int .u32 tag, .slice a n c] 25) = w0 := ⟨_, rfl⟩
  have hb0 : Below w.heap.size w w0 := by rw [← hw0]; exact (Below.refl _ _).alloc (Nat.le_refl _) _
  have hs0 : w0.heap.size = w.heap.size + 1 := by rw [← hw0]; simp
  have hA : Arr w0 w.heap.size 25 [.int .u32 tag, .slice a n c] := by rw [← hw0]; exact arr_new _ _ _
  obtain ⟨w1, hw1⟩ : ∃ w1, w0.alloc (.cells #[.int .u8 r.k, .int .u8 r.f, .slice r.a r.n r.c] 41) = w1 := ⟨_, rfl⟩
  have hb1 : Below w0.heap.size w0 w1 := by rw [← hw1]; exact (Below.refl _ _).alloc (Nat.le_refl _) _
  have hC : Arr w1 w0.heap.size 41 [.int .u8 r.k, .int .u8 r.f, .slice r.a r.n r.c] := by rw [← hw1]; exact arr_new _ _ _
  have hA1 := hA.keep hb1
  have hb01 := hb0.trans (hb1.mono hb0.size)
  obtain ⟨w2, hw2⟩ : ∃ w2, w1.alloc (.cells #[.int .u8 r.k, .int .u8 r.f, .slice r.a r.n r.c] 41) = w2 := ⟨_, rfl⟩
  have hb2 : Below w1.heap.size w1 w2 := by rw [← hw2]; exact (Below.refl _ _).alloc (Nat.le_refl _) _
  have hC2 : Arr w2 w1.heap.size 41 r.cells := by rw [← hw2]; exact arr_new _ _ _
  obtain ⟨w3, hw3⟩ : ∃ w3, w2.alloc (.cells #[.slice a n c, .slice (some ⟨w1.heap.size, 0, none⟩) 1 1] 23) = w3 := ⟨_, rfl⟩
  have hb3 : Below w2.heap.size w2 w3 := by rw [← hw3]; exact (Below.refl _ _).alloc (Nat.le_refl _) _
  have hS3 : Arr w3 w2.heap.size 23 [.slice a n c, .slice (some ⟨w1.heap.size, 0, none⟩) 1 1] := by rw [← hw3]; exact arr_new _ _ _
  have hb13 := hb2.trans (hb3.mono hb2.size)
  have hb03 := hb01.trans (hb13.mono hb01.size)
  have hcc := concat_any w.heap.size w2.heap.size w1.heap.size a n c L r w3 hS3 (h.below hb03) (hC2.keep hb3) (hr.below hb03) hn hb03.size (fun q hq => by
    have hq' : CkOk w q := by
      rcases List.mem_append.1 hq with h1 | h1
      · exact h.row q h1
      · simp at h1; subst h1; exact hr
    exact hq'.off.of (fun k cs hk => hb03.block k (Array.getElem?_eq_some_iff.1 hk).1))
  have HCC := Lib.hid hcc
  have HA3 := Lib.hid (hA1.keep hb13)
  have HB3 := Lib.hid hb03
  have d1 := hA1.cell (i := 1) rfl
  have e0 := hC.cell (i := 0) rfl
  have e1 := hC.cell (i := 1) rfl
  have e2 := hC.cell (i := 2) rfl
  have hp4 : pcs (L ++ [r]) = pcs L ++ [r.pc] := by rw [pcs_app]; rfl
  have HP4 := Lib.hid hp4
  obtain ⟨SZ, hSZ⟩ : ∃ SZ, sizeP (pcs L ++ [r.pc]) = SZ := ⟨_, rfl⟩
  have hfit : fitsB (pcs L) r.pc mtu = (mayB (pcs L ++ [r.pc]) && decide ((SZ : Int) ≤ mtu)) := by unfold fitsB; rw [hSZ]
  rw [hSZ] at hs
  have HFIT := Lib.hid hfit
  have HSZ := Lib.hid hSZ
  clear h hr hb0 hs0 hA hb1 hC hA1 hb01 hb2 hC2 hb3 hS3 hb13 hb03 hcc hp4 hfit hSZ
  go_enter Try.func25, Try.ntmps25
  go_wp2_with fail
  refine HCC.out.mono ?_
  rintro e w4 ⟨a4, c4, rfl, hrow4, hb4⟩
  have hA4 := HA3.out.keep hb4
  obtain ⟨w5, hw5⟩ : ∃ x, w4.setCell ⟨w.heap.size, 1, none⟩ (.slice a4 (n + 1) c4) = x := ⟨_, rfl⟩
  have hA5 : Arr w5 w.heap.size 25 [.int .u32 tag, .slice a4 (n + 1) c4] := by rw [← hw5]; exact hA4.set 1 _
  have hB5 : Below w.heap.size w w5 := by rw [← hw5]; exact (HB3.out.trans (hb4.mono HB3.out.size)).setCell (p := ⟨w.heap.size, 1, none⟩) (Nat.le_refl _) _
  have hrow5 : RowC w.heap.size w3.heap.size w5 a4 (n + 1) c4 (L ++ [r]) := by rw [← hw5]; exact hrow4.setAt hA4 (by decide) (by decide) (Nat.le_refl _) 1 _
  have hmay := pmay_any a4 (n + 1) c4 (L ++ [r]) w5 hrow5.rows (by omega)
  rw [HP4.out] at hmay
  have HMAY := Lib.hid hmay
  have HR5 := Lib.hid hrow5
  have HA5 := Lib.hid hA5
  have HB5 := Lib.hid hB5
  have x0 := hA4.cell (i := 0) rfl
  have x1 := hA4.cell (i := 1) rfl
  have fr1 := hA4.free 1
  have y0 := hA5.cell (i := 0) rfl
  have y1 := hA5.cell (i := 1) rfl
  clear HCC HA3 HB3 d1 e0 e1 e2 hrow4 hb4 hA4 hA5 hB5 hrow5 hmay hw0 hw1 hw2 hw3
  cases hm : mayB (pcs L ++ [r.pc]) with
  | false =>
    rw [hm] at HMAY
    have HM := Lib.hid hm
    clear hm
    go_wp2_with fail
    refine HMAY.out.mono ?_
    rintro e w6 ⟨rfl, hb6⟩
    have HB6 := Lib.hid (HB5.out.trans (hb6.mono HB5.out.size))
    clear hb6 HMAY y0 y1
    go_wp2
    go_ret
    exact ⟨by rw [HFIT.out, HM.out, Bool.false_and]; rfl, HB6.out⟩
  | true =>
    rw [hm] at HMAY
    have HM := Lib.hid hm
    clear hm
    go_wp2_with fail
    refine HMAY.out.mono ?_
    rintro e w6 ⟨rfl, hb6⟩
    have HB6 := Lib.hid (HB5.out.trans (hb6.mono HB5.out.size))
    have hA6 := HA5.out.keep hb6
    have z0 := hA6.cell (i := 0) rfl
    have z1 := hA6.cell (i := 1) rfl
    have hsz := psize_any tag a4 (n + 1) c4 (L ++ [r]) w6 (HR5.out.keep hb6).rows (by omega) (by rw [HP4.out, HSZ.out]; exact hs)
    rw [HP4.out, HSZ.out] at hsz
    have HSZ2 := Lib.hid hsz
    clear hb6 hA6 hsz HMAY y0 y1
    by_cases hle : (SZ : Int) ≤ mtu
    · have HD := Lib.hid (decide_eq_true hle)
      go_wp2_with fail
      refine HSZ2.out.mono ?_
      rintro e w7 ⟨rfl, hb7⟩
      have HB7 := Lib.hid (HB6.out.trans (hb7.mono HB6.out.size))
      clear hb7 HB6 HSZ2
      go_wp2
      go_ret
      exact ⟨by rw [HFIT.out, HM.out, HD.out]; rfl, HB7.out⟩
    · have hld : decide ((SZ : Int) ≤ mtu) = false := decide_eq_false hle
      have HD := Lib.hid hld
      clear hle
      go_wp2_with fail
      refine HSZ2.out.mono ?_
      rintro e w7 ⟨rfl, hb7⟩
      have HB7 := Lib.hid (HB6.out.trans (hb7.mono HB6.out.size))
      clear hb7 HB6 HSZ2
      go_wp2
      go_ret
      exact ⟨by rw [HFIT.out, HM.out, HD.out]; rfl, HB7.out⟩
theorem pf_ok : PkFitsOk := fun tag a n c L r mtu w h hr hn hs h0 h1 => pfits_any tag a n c L r mtu w h hr hn hs h0 h1
end Go.Proofs.Ytnndlpbbllmpjaa
