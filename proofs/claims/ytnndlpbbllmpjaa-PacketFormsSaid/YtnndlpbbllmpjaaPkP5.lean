/-
  Stage 10: the program's Read. Written by genpkp5.py.
-/
import Derived.Test.YtnndlpbbllmpjaaPkP4
namespace Go.Proofs.Ytnndlpbbllmpjaa
open Go.RowKit Go.Shelf
set_option linter.unusedVariables false
set_option linter.unusedSimpArgs false
attribute [local go_sem] Oper.semAt_some
set_option maxRecDepth 100000 in
set_option maxHeartbeats 1600000 in
theorem pread_few (aq : Option Addr) (n c : Nat) (b : List Int) (w : World) (hr : Reads w aq n b) (hz : Byt b) (hc : n ≤ c) (hn : n ≤ 1048576) (h12 : n < 12) :
    Calls Try.prog 22 #[.slice aq n c] w fun e w' => RdPr b w w' e ∧ Below w.heap.size w w' := by
  obtain ⟨wa, hwa⟩ : ∃ wa, w.alloc (.cells #[.int .u32 0, .slice none 0 0] 25) = wa := ⟨_, rfl⟩
  have hba : Below w.heap.size w wa := by rw [← hwa]; exact (Below.refl _ _).alloc (Nat.le_refl _) _
  have hsa : wa.heap.size = w.heap.size + 1 := by rw [← hwa]; simp
  have hAa : Arr wa w.heap.size 25 [.int .u32 0, .slice none 0 0] := by rw [← hwa]; exact arr_new _ _ _
  obtain ⟨w0, hw0⟩ : ∃ w0, wa.alloc (.cells #[.int .i64 0] 37) = w0 := ⟨_, rfl⟩
  have hb0' : Below wa.heap.size wa w0 := by rw [← hw0]; exact (Below.refl _ _).alloc (Nat.le_refl _) _
  have hs0 : w0.heap.size = w.heap.size + 2 := by rw [← hw0]; simp; omega
  have hE0 : Arr w0 (w.heap.size + 1) 37 [.int .i64 0] := by rw [← hw0, ← hsa]; exact arr_new _ _ _
  have hZ0 := hAa.keep hb0'
  have hb0 := hba.trans (hb0'.mono hba.size)
  have hbl : b.length = n := hr.1
  have HR := Lib.hid (And.intro hr hz)
  have HL := Lib.hid hbl
  have H0 := Lib.hid (And.intro hb0 (And.intro hZ0 hE0))
  clear hr hz hb0 hZ0 hE0 hba hb0' hAa hbl
  have g12 : (n : Int) < 12 := by omega
  go_enter Try.func22, Try.ntmps22
  have hzf := H0.out.2.1
  have hef := H0.out.2.2
  have hbf := H0.out.1
  obtain ⟨w8, hw8⟩ : ∃ x, ((w0.setCell ⟨w.heap.size, 0, none⟩ (.int .u32 0)).setCell ⟨w.heap.size, 1, none⟩ (.slice none 0 0)).setCell ⟨w.heap.size + 1, 0, none⟩ (.int .i64 7) = x := ⟨_, rfl⟩
  have hef2 : Arr ((w0.setCell ⟨w.heap.size, 0, none⟩ (.int .u32 0)).setCell ⟨w.heap.size, 1, none⟩ (.slice none 0 0)) (w.heap.size + 1) 37 _ := (Below.heap_setCell _ ⟨w.heap.size, 1, none⟩ _ _ (by simp)).trans ((Below.heap_setCell w0 ⟨w.heap.size, 0, none⟩ _ _ (by simp)).trans hef)
  have hA8 : Arr _ w.heap.size 25 [.int .u32 0, .slice none 0 0] := (Below.heap_setCell _ ⟨w.heap.size + 1, 0, none⟩ (.int .i64 7) _ (by simp)).trans ((hzf.set 0 (.int .u32 0)).set 1 (.slice none 0 0))
  have hE8 : Arr _ (w.heap.size + 1) 37 [.int .i64 7] := hef2.set 0 (.int .i64 7)
  have hB8 := ((hbf.setCell (p := ⟨w.heap.size, 0, none⟩) (by simp) (.int .u32 0)).setCell (p := ⟨w.heap.size, 1, none⟩) (by simp) (.slice none 0 0)).setCell (p := ⟨w.heap.size + 1, 0, none⟩) (by simp) (.int .i64 7)
  rw [hw8] at hA8 hE8 hB8
  have fs0 := hzf.free 0
  have fs1 := hzf.free 1
  have fs2 := hef.free 0
  have yy0 := hzf.cell (i := 0) rfl
  have yy1 := hzf.cell (i := 1) rfl
  have yy2 := hef.cell (i := 0) rfl
  have fs3 := hef2.free 0
  have yy3 := hef2.cell (i := 0) rfl
  have zz0 := hA8.cell (i := 0) rfl
  have zz1 := hA8.cell (i := 1) rfl
  have zz2 := hE8.cell (i := 0) rfl
  have HE := Lib.hid hB8
  clear hA8 hE8 hB8 hzf hef hef2 hbf
  go_wp2
  exact bodyPost_ret (by simp [results, Try.results22, go_sem, zz0, zz1, zz2] <;> rfl) rfl ⟨.inl ⟨by rw [HL.out]; exact h12, rfl⟩, HE.out⟩
set_option maxRecDepth 100000 in
set_option maxHeartbeats 1600000 in
theorem pread_sum (aq : Option Addr) (n c : Nat) (b : List Int) (w : World) (hr : Reads w aq n b) (hz : Byt b) (hc : n ≤ c) (hn : n ≤ 1048576) (h12 : 12 ≤ n) (hbad : sumOk b = false) :
    Calls Try.prog 22 #[.slice aq n c] w fun e w' => RdPr b w w' e ∧ Below w.heap.size w w' := by
  obtain ⟨wa, hwa⟩ : ∃ wa, w.alloc (.cells #[.int .u32 0, .slice none 0 0] 25) = wa := ⟨_, rfl⟩
  have hba : Below w.heap.size w wa := by rw [← hwa]; exact (Below.refl _ _).alloc (Nat.le_refl _) _
  have hsa : wa.heap.size = w.heap.size + 1 := by rw [← hwa]; simp
  have hAa : Arr wa w.heap.size 25 [.int .u32 0, .slice none 0 0] := by rw [← hwa]; exact arr_new _ _ _
  obtain ⟨w0, hw0⟩ : ∃ w0, wa.alloc (.cells #[.int .i64 0] 37) = w0 := ⟨_, rfl⟩
  have hb0' : Below wa.heap.size wa w0 := by rw [← hw0]; exact (Below.refl _ _).alloc (Nat.le_refl _) _
  have hs0 : w0.heap.size = w.heap.size + 2 := by rw [← hw0]; simp; omega
  have hE0 : Arr w0 (w.heap.size + 1) 37 [.int .i64 0] := by rw [← hw0, ← hsa]; exact arr_new _ _ _
  have hZ0 := hAa.keep hb0'
  have hb0 := hba.trans (hb0'.mono hba.size)
  have hbl : b.length = n := hr.1
  have HR := Lib.hid (And.intro hr hz)
  have HL := Lib.hid hbl
  have H0 := Lib.hid (And.intro hb0 (And.intro hZ0 hE0))
  clear hr hz hb0 hZ0 hE0 hba hb0' hAa hbl
  have g12 : decide ((n : Int) < 12) = false := by simp; omega
  have HLE := Lib.hid (show 12 ≤ b.length by rw [HL.out]; omega)
  obtain ⟨U, hU⟩ : ∃ U, sumB b = U := ⟨_, rfl⟩
  obtain ⟨lU, hU1⟩ : 0 ≤ U ∧ U < 4294967296 := hU ▸ sumB_in HR.out.2 HLE.out
  obtain ⟨X, hX⟩ : ∃ X : Int, ((ext 0 (zero4 b) : Nat) : Int) = X := ⟨_, rfl⟩
  have hok : sumOk b = decide (X = U) := by unfold sumOk; rw [hX, hU]
  have hg1 := pnum_any aq n c 8 4 b w0 (HR.out.1.below H0.out.1) HR.out.2 (by omega) rfl (by omega) (by omega)
  rw [show num ((b.drop 8).take 4) = U from hU] at hg1
  have HG1 := Lib.hid hg1
  have hk1 := pchk_any aq n c b w0 (HR.out.1.below H0.out.1) HR.out.2 hc (by omega) (by omega)
  rw [hX] at hk1
  have HK1 := Lib.hid hk1
  have HU := Lib.hid hU
  clear hg1 hk1 hX hU
  rw [hok] at hbad
  have hne := of_decide_eq_false hbad
  have hsn : (U != X) = true := by simpa using fun h => hne h.symm
  have HSO := Lib.hid (show sumOk b = false by rw [hok]; exact hbad)
  clear hok hbad hne
  go_enter Try.func22, Try.ntmps22
  go_wp2_with fail
  refine HG1.out.mono ?_
  rintro e w1 ⟨rfl, rfl⟩
  go_wp2_with fail
  refine HK1.out.mono ?_
  rintro e w1 ⟨rfl, hb1⟩
  have HB1 := Lib.hid (H0.out.1.trans (hb1.mono H0.out.1.size))
  have HZ1 := Lib.hid (H0.out.2.1.keep hb1)
  have HE1 := Lib.hid (H0.out.2.2.keep hb1)
  clear hb1 HG1 HK1 hw0 hwa
  have hzf := HZ1.out
  have hef := HE1.out
  have hbf := HB1.out
  obtain ⟨w8, hw8⟩ : ∃ x, ((w1.setCell ⟨w.heap.size, 0, none⟩ (.int .u32 0)).setCell ⟨w.heap.size, 1, none⟩ (.slice none 0 0)).setCell ⟨w.heap.size + 1, 0, none⟩ (.int .i64 8) = x := ⟨_, rfl⟩
  have hef2 : Arr ((w1.setCell ⟨w.heap.size, 0, none⟩ (.int .u32 0)).setCell ⟨w.heap.size, 1, none⟩ (.slice none 0 0)) (w.heap.size + 1) 37 _ := (Below.heap_setCell _ ⟨w.heap.size, 1, none⟩ _ _ (by simp)).trans ((Below.heap_setCell w1 ⟨w.heap.size, 0, none⟩ _ _ (by simp)).trans hef)
  have hA8 : Arr _ w.heap.size 25 [.int .u32 0, .slice none 0 0] := (Below.heap_setCell _ ⟨w.heap.size + 1, 0, none⟩ (.int .i64 8) _ (by simp)).trans ((hzf.set 0 (.int .u32 0)).set 1 (.slice none 0 0))
  have hE8 : Arr _ (w.heap.size + 1) 37 [.int .i64 8] := hef2.set 0 (.int .i64 8)
  have hB8 := ((hbf.setCell (p := ⟨w.heap.size, 0, none⟩) (by simp) (.int .u32 0)).setCell (p := ⟨w.heap.size, 1, none⟩) (by simp) (.slice none 0 0)).setCell (p := ⟨w.heap.size + 1, 0, none⟩) (by simp) (.int .i64 8)
  rw [hw8] at hA8 hE8 hB8
  have fs0 := hzf.free 0
  have fs1 := hzf.free 1
  have fs2 := hef.free 0
  have yy0 := hzf.cell (i := 0) rfl
  have yy1 := hzf.cell (i := 1) rfl
  have yy2 := hef.cell (i := 0) rfl
  have fs3 := hef2.free 0
  have yy3 := hef2.cell (i := 0) rfl
  have zz0 := hA8.cell (i := 0) rfl
  have zz1 := hA8.cell (i := 1) rfl
  have zz2 := hE8.cell (i := 0) rfl
  have HE := Lib.hid hB8
  clear hA8 hE8 hB8 hzf hef hef2 hbf
  go_wp2
  exact bodyPost_ret (by simp [results, Try.results22, go_sem, zz0, zz1, zz2] <;> rfl) rfl ⟨.inr (.inl ⟨HLE.out, HSO.out, rfl⟩), HE.out⟩
set_option maxRecDepth 100000 in
set_option maxHeartbeats 1600000 in
theorem pread_main (aq : Option Addr) (n c : Nat) (b : List Int) (w : World) (hr : Reads w aq n b) (hz : Byt b) (hc : n ≤ c) (hn : n ≤ 1048576) (h12 : 12 ≤ n) (hgood : sumOk b = true) :
    Calls Try.prog 22 #[.slice aq n c] w fun e w' => RdPr b w w' e ∧ Below w.heap.size w w' := by
  obtain ⟨wa, hwa⟩ : ∃ wa, w.alloc (.cells #[.int .u32 0, .slice none 0 0] 25) = wa := ⟨_, rfl⟩
  have hba : Below w.heap.size w wa := by rw [← hwa]; exact (Below.refl _ _).alloc (Nat.le_refl _) _
  have hsa : wa.heap.size = w.heap.size + 1 := by rw [← hwa]; simp
  have hAa : Arr wa w.heap.size 25 [.int .u32 0, .slice none 0 0] := by rw [← hwa]; exact arr_new _ _ _
  obtain ⟨w0, hw0⟩ : ∃ w0, wa.alloc (.cells #[.int .i64 0] 37) = w0 := ⟨_, rfl⟩
  have hb0' : Below wa.heap.size wa w0 := by rw [← hw0]; exact (Below.refl _ _).alloc (Nat.le_refl _) _
  have hs0 : w0.heap.size = w.heap.size + 2 := by rw [← hw0]; simp; omega
  have hE0 : Arr w0 (w.heap.size + 1) 37 [.int .i64 0] := by rw [← hw0, ← hsa]; exact arr_new _ _ _
  have hZ0 := hAa.keep hb0'
  have hb0 := hba.trans (hb0'.mono hba.size)
  have hbl : b.length = n := hr.1
  have HR := Lib.hid (And.intro hr hz)
  have HL := Lib.hid hbl
  have H0 := Lib.hid (And.intro hb0 (And.intro hZ0 hE0))
  clear hr hz hb0 hZ0 hE0 hba hb0' hAa hbl
  have g12 : decide ((n : Int) < 12) = false := by simp; omega
  have HLE := Lib.hid (show 12 ≤ b.length by rw [HL.out]; omega)
  obtain ⟨U, hU⟩ : ∃ U, sumB b = U := ⟨_, rfl⟩
  obtain ⟨lU, hU1⟩ : 0 ≤ U ∧ U < 4294967296 := hU ▸ sumB_in HR.out.2 HLE.out
  obtain ⟨X, hX⟩ : ∃ X : Int, ((ext 0 (zero4 b) : Nat) : Int) = X := ⟨_, rfl⟩
  have hok : sumOk b = decide (X = U) := by unfold sumOk; rw [hX, hU]
  have hg1 := pnum_any aq n c 8 4 b w0 (HR.out.1.below H0.out.1) HR.out.2 (by omega) rfl (by omega) (by omega)
  rw [show num ((b.drop 8).take 4) = U from hU] at hg1
  have HG1 := Lib.hid hg1
  have hk1 := pchk_any aq n c b w0 (HR.out.1.below H0.out.1) HR.out.2 hc (by omega) (by omega)
  rw [hX] at hk1
  have HK1 := Lib.hid hk1
  have HU := Lib.hid hU
  clear hg1 hk1 hX hU
  rw [hok] at hgood
  have heq := of_decide_eq_true hgood
  have hsn : (U != X) = false := by simpa using heq.symm
  have HSO := Lib.hid (show sumOk b = true by rw [hok]; exact hgood)
  clear hok hgood heq
  obtain ⟨T, hT⟩ : ∃ T, tagB b = T := ⟨_, rfl⟩
  obtain ⟨lT, hT1⟩ : 0 ≤ T ∧ T < 4294967296 := hT ▸ tagB_in HR.out.2 HLE.out
  have HT := Lib.hid hT
  clear hT
  refine (callsIn_wide (n := 12)).1 ?_
  refine callsIn_of_wp_marks Try.func22 rfl trivial ?_ rfl
  simp only [Try.ntmps22, List.size_toArray, List.length_cons, List.length_nil, Nat.reduceAdd, Nat.reduceSub, Array.replicate_succ, Array.replicate_zero, List.push_toArray, List.append_toArray, List.nil_append, List.cons_append]
  gi_wp2_with fail
  refine ⟨trivial, ?_⟩
  refine (callsIn_wide.2 HG1.out).mono ?_
  rintro e w1 ⟨rfl, rfl⟩
  gi_wp2_with fail
  refine ⟨trivial, ?_⟩
  refine (callsIn_wide.2 HK1.out).mono ?_
  rintro e w1 ⟨rfl, hb1⟩
  have HB1 := Lib.hid (H0.out.1.trans (hb1.mono H0.out.1.size))
  have HZ1 := Lib.hid (H0.out.2.1.keep hb1)
  have HE1 := Lib.hid (H0.out.2.2.keep hb1)
  clear hb1 HG1 HK1 hw0 hwa
  have hg2 := pnum_any aq n c 4 4 b w1 (HR.out.1.below HB1.out) HR.out.2 (by omega) rfl (by omega) (by omega)
  rw [show num ((b.drop 4).take 4) = T from HT.out] at hg2
  have HG2 := Lib.hid hg2
  clear hg2
  have hcut : ∀ W, (Instr.slice 29 (.slice aq n c) (some (.int .i64 12)) none none).run Try.prog W = .ok (.slice (cutA aq 12 c) (n - 12) (c - 12)) W := fun W => cut_l aq n c 12 (by omega) W
  gi_wp2_with fail
  refine ⟨trivial, ?_⟩
  refine (callsIn_wide.2 HG2.out).mono ?_
  rintro e w2 ⟨rfl, rfl⟩
  gi_wp2_with fail
  refine ⟨trivial, ?_⟩
  refine (callsIn_wide.2 (chunksF_any _ _ _ _)).mono ?_
  rintro e w2 ⟨rfl, rfl⟩
  gi_wp2
  clear hcut HG2
  have hb2 : Below w1.heap.size w1 (w1.alloc (.cells #[.int .u32 T, .slice none 0 0] 25)) := (Below.refl _ _).alloc (Nat.le_refl _) _
  have hs2 : (w1.alloc (.cells #[.int .u32 T, .slice none 0 0] 25)).heap.size = w1.heap.size + 1 := by simp
  have hP2 : Arr (w1.alloc (.cells #[.int .u32 T, .slice none 0 0] 25)) w1.heap.size 25 [.int .u32 T, .slice none 0 0] := arr_new _ _ _
  generalize (w1.alloc (.cells #[.int .u32 T, .slice none 0 0] 25)) = w2 at *
  have hb3 : Below w2.heap.size w2 (w2.alloc (.cells #[.slice (cutA aq 12 c) (n - 12) (c - 12)] 29)) := (Below.refl _ _).alloc (Nat.le_refl _) _
  have hs3 : (w2.alloc (.cells #[.slice (cutA aq 12 c) (n - 12) (c - 12)] 29)).heap.size = w2.heap.size + 1 := by simp
  have hX3 : Arr (w2.alloc (.cells #[.slice (cutA aq 12 c) (n - 12) (c - 12)] 29)) w2.heap.size 29 [.slice (cutA aq 12 c) (n - 12) (c - 12)] := arr_new _ _ _
  generalize (w2.alloc (.cells #[.slice (cutA aq 12 c) (n - 12) (c - 12)] 29)) = wL at *
  have hgp : w.heap.size + 2 ≤ w1.heap.size := by have := HE1.out.lt; omega
  have hb13 := hb2.trans (hb3.mono hb2.size)
  have HBL := Lib.hid (HB1.out.trans (hb13.mono HB1.out.size))
  have HZL := Lib.hid (HZ1.out.keep hb13)
  have HEL := Lib.hid (HE1.out.keep hb13)
  have HPL := Lib.hid (hP2.keep hb3)
  have HXL := Lib.hid hX3
  rw [hs2] at hs3 HXL
  generalize w1.heap.size = gp at *
  have HSL := Lib.hid (show wL.heap.size = gp + 2 by omega)
  clear hb2 hs2 hP2 hb3 hs3 hX3 hb13 HB1 HZ1 HE1 H0
  have HRL := Lib.hid (reads_from (HR.out.1.below HBL.out) (lo := 12) h12 hc)
  refine Iter.wpIn_range rfl (by omega) (gf := 56) (lb := #[.pointer (some ⟨gp + 1, 0, none⟩)]) rfl trivial (enters_of Try.func56 (by kernel_rfl) rfl) (chunks_seq (gp + 1) (cutA aq 12 c) (n - 12) (c - 12) (b.drop 12) (HR.out.2.drop 12) (by omega) (by omega) 11 (by omega)) (fun x => by cases x <;> rfl) (RdI w gp (gp + 1) (wL.heap.size + 2) T (cutA aq 12 c) (n - 12) (c - 12) (b.drop 12)) (RdX w b) RdI.stays (RdI.turns (by have := HSL.out; omega)) (fun cx => RdX.turns (by have := HSL.out; omega) cx) (fun s A h => ⟨h.box.cell (i := 0) rfl, h.rd⟩) ?start ?round ?done ?stop
  case start =>
    exact ⟨⟨[], none, 0, rfl, ⟨by simp [pcs], by simp [pcs, bodyP_nil], by simp [pcs, bodyP_nil]⟩, RowC.nil _ _ (Nat.zero_le _) _, HPL.out, OwnBodies.nil _ _⟩, HZL.out, HEL.out, HXL.out, HRL.out, HBL.out⟩
  case stop =>
    intro cx pre W hX hK
    obtain rfl := hX.code
    have hlie := CellsLie.of_put (.deferred none) hK rfl
    have hA8 := hX.res.lie hlie
    have hE8 := hX.err.lie hlie
    have zz0 := hA8.cell (i := 0) rfl
    have zz1 := hA8.cell (i := 1) rfl
    have zz2 := hE8.cell (i := 0) rfl
    have HE := Lib.hid (And.intro hX.no (hX.bel.trans (below_put (.deferred none) (by have := HSL.out; omega) hK)))
    clear hlie hA8 hE8 hX
    gi_wp2
    refine ⟨by simp, .inl ⟨_, _, rfl, run_takeDeferred hK, ?_⟩⟩
    exact ⟨_, (by simp [results, Try.results22, go_sem, zz0, zz1, zz2] <;> rfl), .inr (.inr (.inl ⟨HLE.out, HSO.out, HE.out.1, rfl⟩)), HE.out.2⟩
  case round =>
    intro pre x W0 W1 hI hb hx hlt
    obtain ⟨M', e1, hfi, hx⟩ := hx
    have hI1 := hI.lie (.of_below hb) (hb.mono hI.bel.size)
    obtain ⟨M, a', c', e2, hf, hrow, hP, hown⟩ := hI.ex
    obtain rfl : M' = M := (List.map_inj_right (fun _ _ h => Option.some.inj h)).1 (e1.symm.trans e2)
    have hS1 := HSL.out
    cases x with
    | none =>
      obtain ⟨hat, hno⟩ := hx
      have HI1 := Lib.hid hI1
      have HNO := Lib.hid (isP_stop (b := b) (at' := 12 + (bodyP (pcs M')).length) hfi.1 rfl (by rw [List.length_drop] at hat; omega) (by rw [Nat.add_sub_cancel_left]; exact hfi.2.2) (by rw [List.drop_drop] at hno; exact hno))
      have hb5 : Below W1.heap.size W1 (W1.alloc (.cells #[.int .u8 0, .int .u8 0, .slice none 0 0] 41)) := (Below.refl _ _).alloc (Nat.le_refl _) _
      have hk0 := hb5.block wL.heap.size (by omega)
      have hk1 := hb5.block (wL.heap.size + 1) (by omega)
      have HI5 := Lib.hid (hI1.lie (.of_below hb5) (hb5.mono hI1.bel.size))
      have HK := Lib.hid (And.intro hk0 hk1)
      clear hI hI1 hb hno hat hfi hf hrow hP hown e1 e2 hb5 hk0 hk1
      simp only [ckEnc]
      gi_wp2
      refine ⟨HK.out, fun r r' hr => ?_⟩
      generalize (W1.alloc (.cells #[.int .u8 0, .int .u8 0, .slice none 0 0] 41)) = Wa at *
      have hlb := CellsLie.of_put (.loop r') hr rfl
      have hI6 := HI5.out.lie hlb (below_put (.loop r') (by omega) hr)
      clear HI5 HI1 HK hlb hr
      generalize Wa.putObj (wL.heap.size + 1) (.loop r') = Wb at *
      have hzf := hI6.res
      have hef := hI6.err
      have hbf := hI6.bel
      obtain ⟨w8, hw8⟩ : ∃ x, ((Wb.setCell ⟨w.heap.size, 0, none⟩ (.int .u32 0)).setCell ⟨w.heap.size, 1, none⟩ (.slice none 0 0)).setCell ⟨w.heap.size + 1, 0, none⟩ (.int .i64 7) = x := ⟨_, rfl⟩
      have hef2 : Arr ((Wb.setCell ⟨w.heap.size, 0, none⟩ (.int .u32 0)).setCell ⟨w.heap.size, 1, none⟩ (.slice none 0 0)) (w.heap.size + 1) 37 _ := (Below.heap_setCell _ ⟨w.heap.size, 1, none⟩ _ _ (by simp)).trans ((Below.heap_setCell Wb ⟨w.heap.size, 0, none⟩ _ _ (by simp)).trans hef)
      have hA8 : Arr _ w.heap.size 25 [.int .u32 0, .slice none 0 0] := (Below.heap_setCell _ ⟨w.heap.size + 1, 0, none⟩ (.int .i64 7) _ (by simp)).trans ((hzf.set 0 (.int .u32 0)).set 1 (.slice none 0 0))
      have hE8 : Arr _ (w.heap.size + 1) 37 [.int .i64 7] := hef2.set 0 (.int .i64 7)
      have hB8 := ((hbf.setCell (p := ⟨w.heap.size, 0, none⟩) (by simp) (.int .u32 0)).setCell (p := ⟨w.heap.size, 1, none⟩) (by simp) (.slice none 0 0)).setCell (p := ⟨w.heap.size + 1, 0, none⟩) (by simp) (.int .i64 7)
      rw [hw8] at hA8 hE8 hB8
      have fs0 := hzf.free 0
      have fs1 := hzf.free 1
      have fs2 := hef.free 0
      have yy0 := hzf.cell (i := 0) rfl
      have yy1 := hzf.cell (i := 1) rfl
      have yy2 := hef.cell (i := 0) rfl
      have fs3 := hef2.free 0
      have yy3 := hef2.cell (i := 0) rfl
      have zz0 := hA8.cell (i := 0) rfl
      have zz1 := hA8.cell (i := 1) rfl
      have zz2 := hE8.cell (i := 0) rfl
      have hkk : ∀ k, w.heap.size + 2 ≤ k → w8.heap[k]? = Wb.heap[k]? := fun k hk => by rw [← hw8]; exact (Below.heap_setCell _ ⟨w.heap.size + 1, 0, none⟩ _ _ (by simp; omega)).trans ((Below.heap_setCell _ ⟨w.heap.size, 1, none⟩ _ _ (by simp; omega)).trans (Below.heap_setCell _ ⟨w.heap.size, 0, none⟩ _ _ (by simp; omega)))
      have HE := Lib.hid (And.intro (And.intro (hkk wL.heap.size (by omega)) (hkk (wL.heap.size + 1) (by omega))) (RdX.mk (c := .ret) (pre := pre ++ [none]) rfl hA8 hE8 hB8 HNO.out))
      clear hA8 hE8 hB8 hzf hef hef2 hbf hkk hI6
      gi_wp2
      exact HE.out
    | some r =>
      obtain ⟨⟨g, ha, hg0, hblk, hrn, hrc, hkb, hfb, hzb⟩, hfn⟩ := hx
      have hb5 : Below W1.heap.size W1 (W1.alloc (.cells #[.int .u8 r.k, .int .u8 r.f, .slice r.a r.n r.c] 41)) := (Below.refl _ _).alloc (Nat.le_refl _) _
      have hs5 : (W1.alloc (.cells #[.int .u8 r.k, .int .u8 r.f, .slice r.a r.n r.c] 41)).heap.size = W1.heap.size + 1 := by simp
      have hA5 : Arr (W1.alloc (.cells #[.int .u8 r.k, .int .u8 r.f, .slice r.a r.n r.c] 41)) W1.heap.size 41 [.int .u8 r.k, .int .u8 r.f, .slice r.a r.n r.c] := arr_new _ _ _
      have hk0 := hb5.block wL.heap.size (by omega)
      have hk1 := hb5.block (wL.heap.size + 1) (by omega)
      have HK := Lib.hid (And.intro hk0 hk1)
      have hb05 := hb.trans (hb5.mono hb.size)
      have hc05 := CellsLie.of_below hb05
      have hblk5 := hblk.below hb5
      have hI5 := hI.lie hc05 (hb05.mono hI.bel.size)
      have hszz : W0.heap.size ≤ W1.heap.size := hb.size
      have HH := Lib.hid (And.intro hI5 (And.intro hc05 (And.intro hblk5 hA5)))
      have HG := Lib.hid (And.intro hf (And.intro hrow (And.intro hP hown)))
      have HN := Lib.hid (And.intro ha (And.intro hg0 (And.intro hrn (And.intro hrc (And.intro hkb (And.intro hfb (And.intro hzb hfn)))))))
      have HB0 := Lib.hid hI.bel.size
      clear hI hI1 hb hfi hf hrow hP hown e1 hb5 hk0 hk1 hb05 hc05 hblk5 hI5 hblk hA5 ha hg0 hrn hrc hkb hfb hzb hfn
      simp only [ckEnc]
      gi_wp2
      refine ⟨HK.out, fun r1 r' hr => ?_⟩
      generalize (W1.alloc (.cells #[.int .u8 r.k, .int .u8 r.f, .slice r.a r.n r.c] 41)) = Wa at *
      have hlb := CellsLie.of_put (.loop r') hr rfl
      have hbp : Below w.heap.size Wa (Wa.putObj (wL.heap.size + 1) (.loop r')) := below_put (.loop r') (by omega) hr
      have hsp : (Wa.putObj (wL.heap.size + 1) (.loop r')).heap.size = Wa.heap.size := by simp
      generalize Wa.putObj (wL.heap.size + 1) (.loop r') = Wb at *
      have hI6 := HH.out.1.lie hlb hbp
      have hc6 := HH.out.2.1.trans hlb
      have hblk6 : Blk Wb g r.zs := (hlb.same _ _ _ _ HH.out.2.2.1).trans HH.out.2.2.1
      have hA6 := HH.out.2.2.2.lie hlb
      have hrow6 := HG.out.2.1.lie hc6
      have hP6 := HG.out.2.2.1.lie hc6
      have hrd6 : Reads Wb r.a r.n r.zs := by rw [HN.out.1, HN.out.2.2.1]; exact hblk6.readsAll _ rfl
      have hrz : r.zs.length ≤ 65531 := HN.out.2.2.2.2.2.2.2.1 r.pc (by simp [pcs])
      have hck6 : CkOk Wb r := ⟨HN.out.2.2.2.2.1, HN.out.2.2.2.2.2.1, hrd6, HN.out.2.2.2.2.2.2.1, by rw [HN.out.2.2.1, HN.out.2.2.2.1]; exact Nat.le_refl _, by rw [HN.out.2.2.2.1]; unfold maxLen; omega⟩
      have hoff6 : OffC 0 Wb r := fun _ p hp => .inr ⟨_, by rw [HN.out.1] at hp; cases hp; exact hblk6⟩
      have hr86 : Row8 w.heap.size Wb r.a r.n r.c r.zs := by rw [HN.out.1, HN.out.2.2.1, HN.out.2.2.2.1]; exact Row8.of_blk hblk6 (by have := HB0.out; have := HN.out.2.1; omega) rfl (by unfold maxLen; omega)
      have hown6 := HG.out.2.2.2.snoc hc6 HB0.out HN.out.1 HN.out.2.1 hr86
      have hcnt : M'.length ≤ 1048576 := by have h1 := bodyP_count HG.out.1.1; rw [pcs_len] at h1; have h2 := HG.out.1.2.1; rw [List.length_drop, HL.out] at h2; omega
      have hb7 : Below Wb.heap.size Wb (Wb.alloc (.cells #[.int .u8 r.k, .int .u8 r.f, .slice r.a r.n r.c] 41)) := (Below.refl _ _).alloc (Nat.le_refl _) _
      have hA7 : Arr (Wb.alloc (.cells #[.int .u8 r.k, .int .u8 r.f, .slice r.a r.n r.c] 41)) Wb.heap.size 41 r.cells := arr_new _ _ _
      have hrow7 := hrow6.keep hb7
      have hck7 := hck6.below hb7
      obtain ⟨a9, c9, W9, hrun, H9⟩ := hrow7.add1 (Nat.le_trans (by omega) hb7.size) hcnt Wb.heap.size r hA7 hck7
      have HRUN := Lib.hid hrun
      have hP7 := hP6.keep hb7
      have hI7 := hI6.lie (.of_below hb7) (hb7.mono hI6.bel.size)
      have hP9 := grown_arr hrow7.own H9.out.2 hP7 (by omega)
      have hZ9 := grown_arr hrow7.own H9.out.2 hI7.res (by omega)
      have hE9 := grown_arr hrow7.own H9.out.2 hI7.err (by omega)
      have hX9 := grown_arr hrow7.own H9.out.2 hI7.box (by omega)
      have hlt7 : ∀ q, (Value.slice a' M'.length c').ownBlock = some q → wL.heap.size + 2 ≤ q := fun q e => (World.ownsRow.lt hrow7.own q e).1
      have hbel9 : Below w.heap.size w W9 := ⟨H9.out.2.os.trans hI7.bel.os, H9.out.2.tape.trans hI7.bel.tape, H9.out.2.output.trans hI7.bel.output, Nat.le_trans hI7.bel.size H9.out.2.size, fun q hq => (H9.out.2.block q (Nat.lt_of_lt_of_le hq hI7.bel.size) (fun e => by have := hlt7 q e.symm; omega)).trans (hI7.bel.block q hq)⟩
      have hro9 := RowC.added hrow7 hck7 (hoff6.of (fun q cs hk => hb7.block q (Array.getElem?_eq_some_iff.1 hk).1)) H9.out.1 H9.out.2
      have hown9 : OwnBodies w.heap.size W9 (M' ++ [r]) := hown6.of_rows fun k cs hk => (H9.out.2.block k (Nat.lt_of_lt_of_le (Array.getElem?_eq_some_iff.1 hk).1 hb7.size) (hrow7.apart (r := ⟨0, 0, some ⟨k, 0, none⟩, 1, 1, []⟩) (fun _ p hp => by cases hp; exact .inr ⟨cs, (hb7.block k (Array.getElem?_eq_some_iff.1 hk).1).trans hk⟩) Nat.one_pos rfl)).trans (hb7.block k (Array.getElem?_eq_some_iff.1 hk).1)
      obtain ⟨w9, hw9⟩ : ∃ x, W9.setCell ⟨gp, 1, none⟩ (.slice a9 (M'.length + 1) c9) = x := ⟨_, rfl⟩
      have hoth : ∀ k, k ≠ gp → w9.heap[k]? = W9.heap[k]? := fun k hk => by rw [← hw9]; exact Below.heap_setCell W9 ⟨gp, 1, none⟩ _ _ hk
      have hPf : Arr w9 gp 25 [.int .u32 T, .slice a9 (M'.length + 1) c9] := by rw [← hw9]; exact hP9.set 1 _
      have hZf := (hoth _ (by omega)).trans hZ9
      have hEf := (hoth _ (by omega)).trans hE9
      have hXf := (hoth _ (by omega)).trans hX9
      have hBf : Below w.heap.size w w9 := by rw [← hw9]; exact hbel9.setCell (p := ⟨gp, 1, none⟩) (by show w.heap.size ≤ gp; omega) _
      have hRf : RowC 0 (wL.heap.size + 2) w9 a9 (M'.length + 1) c9 (M' ++ [r]) := by rw [← hw9]; exact hro9.setAt hP9 (by decide) (by decide) (Nat.zero_le _) 1 _
      have hOf : OwnBodies w.heap.size w9 (M' ++ [r]) := hown9.of_rows fun k cs hk => hoth k (fun e => by subst e; unfold Arr at hP9; rw [hP9] at hk; simp at hk)
      have hkk : ∀ k, k < Wb.heap.size → k ≠ gp → k < wL.heap.size + 2 → w9.heap[k]? = Wb.heap[k]? := fun k h1 h2 h3 => (hoth k h2).trans ((H9.out.2.block k (Nat.lt_of_lt_of_le h1 hb7.size) (fun e => by have := hlt7 k e.symm; omega)).trans (hb7.block k h1))
      have HFIN := Lib.hid (And.intro (And.intro (hkk wL.heap.size (by omega) (by omega) (by omega)) (hkk (wL.heap.size + 1) (by omega) (by omega) (by omega))) (RdI.mk (pre := M'.map some ++ [some r]) ⟨M' ++ [r], a9, c9, by simp, HN.out.2.2.2.2.2.2.2, by rw [List.length_append]; exact hRf, by rw [List.length_append]; exact hPf, hOf⟩ hZf hEf hXf (reads_from (HR.out.1.below hBf) h12 hc) hBf))
      have y0 := hP6.cell (i := 0) rfl
      have y1 := hP6.cell (i := 1) rfl
      have y2 := hP7.cell (i := 1) rfl
      have v0 := hP9.cell (i := 0) rfl
      have v1 := hP9.cell (i := 1) rfl
      have fr1 := hP9.free 1
      have q0 := hA6.cell (i := 0) rfl
      have q1 := hA6.cell (i := 1) rfl
      have q2 := hA6.cell (i := 2) rfl
      rw [e2]
      clear HH HG hlb hbp hI6 hc6 hblk6 hA6 hrow6 hP6 hrd6 hck6 hoff6 hr86 hown6 hb7 hA7 hrow7 hck7 hrun H9 hP7 hI7 hP9 hZ9 hE9 hX9 hlt7 hbel9 hro9 hown9 hoth hPf hZf hEf hXf hBf hRf hOf hkk hs5 hsp
      gi_wp2_with (gi_at_builtin; refine Iter.wpListIn_append_run rfl _ _ _ rfl _ _ _ _ rfl rfl HRUN.out ?_)
      exact HFIN.out
  case done =>
    intro xs W hS hI hK
    obtain ⟨M0, hfi, hcase⟩ := hS
    obtain ⟨M, a', c', e2, hf, hrow, hP, hown⟩ := hI.ex
    have hall : b.drop 12 = bodyP (pcs M) := by
      rcases hcase with ⟨e1, e3⟩ | e1
      · obtain rfl : M0 = M := (List.map_inj_right (fun _ _ h => Option.some.inj h)).1 (e1.symm.trans e2)
        exact e3.symm
      · exfalso
        have hm : (none : Option Ck) ∈ xs := by rw [e1]; simp
        rw [e2] at hm
        simp at hm
    have hcnt : M.length ≤ 1048576 := by have h1 := bodyP_count hf.1; rw [pcs_len] at h1; have h2 := hf.2.1; rw [List.length_drop, HL.out] at h2; omega
    have HI := Lib.hid (And.intro hI.res (And.intro hI.err hI.bel))
    have HM := Lib.hid (And.intro hf (And.intro hrow (And.intro hP hown)))
    have HALL := Lib.hid hall
    have HKD := Lib.hid hK
    clear hI hfi hcase e2 hf hrow hP hown hall hK xs M0
    obtain ⟨P0, hP0⟩ : ∃ x, num ((b.drop 0).take 2) = x := ⟨_, rfl⟩
    obtain ⟨P2, hP2⟩ : ∃ x, num ((b.drop 2).take 2) = x := ⟨_, rfl⟩
    have hg0 := pnum_any aq n c 0 2 b W (HR.out.1.below HI.out.2.2) HR.out.2 (by omega) rfl (by omega) (by omega)
    have hg2 := pnum_any aq n c 2 2 b W (HR.out.1.below HI.out.2.2) HR.out.2 (by omega) rfl (by omega) (by omega)
    rw [hP0] at hg0
    rw [hP2] at hg2
    have HG0 := Lib.hid hg0
    have HG2 := Lib.hid hg2
    have HP0 := Lib.hid hP0
    have HP2 := Lib.hid hP2
    clear hg0 hg2 hP0 hP2
    by_cases h0 : P0 = 5000
    · skip
      have e0 : (P0 != 5000) = false := by simpa using h0
      by_cases h2 : P2 = 5000
      · skip
        have e2 : (P2 != 5000) = false := by simpa using h2
        have HM2 := Lib.hid (pmay_any a' M.length c' M W HM.out.2.1.rows (by omega))
        have hp1 := HM.out.2.2.1.cell (i := 1) rfl
        have H02 := Lib.hid (And.intro h0 h2)
        clear h0 h2
        cases hmay : mayB (pcs M) with
        | false =>
          rw [hmay] at HM2
          have HNP := Lib.hid (isP_all HM.out.1.1 HALL.out (fun h => by have h1 := h.1; rw [hmay] at h1; cases h1))
          clear hmay
          gi_wp2_with fail
          refine ⟨trivial, ?_⟩
          refine (callsIn_wide.2 HG0.out).mono ?_
          rintro e W1 ⟨rfl, rfl⟩
          gi_wp2_with fail
          refine ⟨trivial, ?_⟩
          refine (callsIn_wide.2 HG2.out).mono ?_
          rintro e W1 ⟨rfl, rfl⟩
          gi_wp2_with fail
          refine ⟨trivial, ?_⟩
          refine (callsIn_wide.2 HM2.out).mono ?_
          rintro e W5 ⟨rfl, hb5⟩
          have HZ5 := Lib.hid (HI.out.1.keep hb5)
          have HE5 := Lib.hid (HI.out.2.1.keep hb5)
          have HB5 := Lib.hid (HI.out.2.2.trans (hb5.mono HI.out.2.2.size))
          have HK5 := Lib.hid ((hb5.block _ (Array.getElem?_eq_some_iff.1 HKD.out).1).trans HKD.out)
          clear hb5 HM2 HG0 HG2 hp1
          have hS1 := HSL.out
          have hzf := HZ5.out
          have hef := HE5.out
          have hbf := HB5.out
          obtain ⟨w8, hw8⟩ : ∃ x, ((W5.setCell ⟨w.heap.size, 0, none⟩ (.int .u32 0)).setCell ⟨w.heap.size, 1, none⟩ (.slice none 0 0)).setCell ⟨w.heap.size + 1, 0, none⟩ (.int .i64 7) = x := ⟨_, rfl⟩
          have hef2 : Arr ((W5.setCell ⟨w.heap.size, 0, none⟩ (.int .u32 0)).setCell ⟨w.heap.size, 1, none⟩ (.slice none 0 0)) (w.heap.size + 1) 37 _ := (Below.heap_setCell _ ⟨w.heap.size, 1, none⟩ _ _ (by simp)).trans ((Below.heap_setCell W5 ⟨w.heap.size, 0, none⟩ _ _ (by simp)).trans hef)
          have hA8 : Arr _ w.heap.size 25 [.int .u32 0, .slice none 0 0] := (Below.heap_setCell _ ⟨w.heap.size + 1, 0, none⟩ (.int .i64 7) _ (by simp)).trans ((hzf.set 0 (.int .u32 0)).set 1 (.slice none 0 0))
          have hE8 : Arr _ (w.heap.size + 1) 37 [.int .i64 7] := hef2.set 0 (.int .i64 7)
          have hB8 := ((hbf.setCell (p := ⟨w.heap.size, 0, none⟩) (by simp) (.int .u32 0)).setCell (p := ⟨w.heap.size, 1, none⟩) (by simp) (.slice none 0 0)).setCell (p := ⟨w.heap.size + 1, 0, none⟩) (by simp) (.int .i64 7)
          rw [hw8] at hA8 hE8 hB8
          have fs0 := hzf.free 0
          have fs1 := hzf.free 1
          have fs2 := hef.free 0
          have yy0 := hzf.cell (i := 0) rfl
          have yy1 := hzf.cell (i := 1) rfl
          have yy2 := hef.cell (i := 0) rfl
          have fs3 := hef2.free 0
          have yy3 := hef2.cell (i := 0) rfl
          have zz0 := hA8.cell (i := 0) rfl
          have zz1 := hA8.cell (i := 1) rfl
          have zz2 := hE8.cell (i := 0) rfl
          have hkk : ∀ k, w.heap.size + 2 ≤ k → w8.heap[k]? = W5.heap[k]? := fun k hk => by rw [← hw8]; exact (Below.heap_setCell _ ⟨w.heap.size + 1, 0, none⟩ _ _ (by simp; omega)).trans ((Below.heap_setCell _ ⟨w.heap.size, 1, none⟩ _ _ (by simp; omega)).trans (Below.heap_setCell _ ⟨w.heap.size, 0, none⟩ _ _ (by simp; omega)))
          have hK8 := (hkk wL.heap.size (by omega)).trans HK5.out
          have hlie := CellsLie.of_put (.deferred none) hK8 rfl
          have hbp8 := hB8.trans (below_put (n₀ := w.heap.size) (.deferred none) (by omega) hK8)
          have zz0 := (hA8.lie hlie).cell (i := 0) rfl
          have zz1 := (hA8.lie hlie).cell (i := 1) rfl
          have zz2 := (hE8.lie hlie).cell (i := 0) rfl
          have HE := Lib.hid hbp8
          have HK8 := Lib.hid hK8
          clear hA8 hE8 hB8 hzf hef hef2 hbf hkk hlie hbp8 hK8 hS1
          gi_wp2
          refine ⟨by simp, .inl ⟨_, _, rfl, run_takeDeferred HK8.out, ?_⟩⟩
          exact ⟨_, (by simp [results, Try.results22, go_sem, zz0, zz1, zz2] <;> rfl), .inr (.inr (.inl ⟨HLE.out, HSO.out, HNP.out, rfl⟩)), HE.out⟩
        | true =>
          rw [hmay] at HM2
          have HIS := Lib.hid (isP_of HR.out.2 HLE.out (HP0.out.trans H02.out.1) (HP2.out.trans H02.out.2) hmay HALL.out)
          clear hmay
          gi_wp2_with fail
          refine ⟨trivial, ?_⟩
          refine (callsIn_wide.2 HG0.out).mono ?_
          rintro e W1 ⟨rfl, rfl⟩
          gi_wp2_with fail
          refine ⟨trivial, ?_⟩
          refine (callsIn_wide.2 HG2.out).mono ?_
          rintro e W1 ⟨rfl, rfl⟩
          gi_wp2_with fail
          refine ⟨trivial, ?_⟩
          refine (callsIn_wide.2 HM2.out).mono ?_
          rintro e W5 ⟨rfl, hb5⟩
          have HZ5 := Lib.hid (HI.out.1.keep hb5)
          have HE5 := Lib.hid (HI.out.2.1.keep hb5)
          have HB5 := Lib.hid (HI.out.2.2.trans (hb5.mono HI.out.2.2.size))
          have HK5 := Lib.hid ((hb5.block _ (Array.getElem?_eq_some_iff.1 HKD.out).1).trans HKD.out)
          have HR5 := Lib.hid (HM.out.2.1.keep hb5)
          have HO5 := Lib.hid (HM.out.2.2.2.lie (.of_below hb5))
          have hP5 := HM.out.2.2.1.keep hb5
          have p0 := hP5.cell (i := 0) rfl
          have p1 := hP5.cell (i := 1) rfl
          clear hb5 HM2 HG0 HG2 hp1 hP5
          have hS1 := HSL.out
          have hzf := HZ5.out
          have hef := HE5.out
          have hbf := HB5.out
          obtain ⟨w8, hw8⟩ : ∃ x, ((W5.setCell ⟨w.heap.size, 0, none⟩ (.int .u32 T)).setCell ⟨w.heap.size, 1, none⟩ (.slice a' M.length c')).setCell ⟨w.heap.size + 1, 0, none⟩ (.int .i64 0) = x := ⟨_, rfl⟩
          have hef2 : Arr ((W5.setCell ⟨w.heap.size, 0, none⟩ (.int .u32 T)).setCell ⟨w.heap.size, 1, none⟩ (.slice a' M.length c')) (w.heap.size + 1) 37 _ := (Below.heap_setCell _ ⟨w.heap.size, 1, none⟩ _ _ (by simp)).trans ((Below.heap_setCell W5 ⟨w.heap.size, 0, none⟩ _ _ (by simp)).trans hef)
          have hA8 : Arr _ w.heap.size 25 [.int .u32 T, .slice a' M.length c'] := (Below.heap_setCell _ ⟨w.heap.size + 1, 0, none⟩ (.int .i64 0) _ (by simp)).trans ((hzf.set 0 (.int .u32 T)).set 1 (.slice a' M.length c'))
          have hE8 : Arr _ (w.heap.size + 1) 37 [.int .i64 0] := hef2.set 0 (.int .i64 0)
          have hB8 := ((hbf.setCell (p := ⟨w.heap.size, 0, none⟩) (by simp) (.int .u32 T)).setCell (p := ⟨w.heap.size, 1, none⟩) (by simp) (.slice a' M.length c')).setCell (p := ⟨w.heap.size + 1, 0, none⟩) (by simp) (.int .i64 0)
          rw [hw8] at hA8 hE8 hB8
          have fs0 := hzf.free 0
          have fs1 := hzf.free 1
          have fs2 := hef.free 0
          have yy0 := hzf.cell (i := 0) rfl
          have yy1 := hzf.cell (i := 1) rfl
          have yy2 := hef.cell (i := 0) rfl
          have fs3 := hef2.free 0
          have yy3 := hef2.cell (i := 0) rfl
          have zz0 := hA8.cell (i := 0) rfl
          have zz1 := hA8.cell (i := 1) rfl
          have zz2 := hE8.cell (i := 0) rfl
          have hkk : ∀ k, w.heap.size + 2 ≤ k → w8.heap[k]? = W5.heap[k]? := fun k hk => by rw [← hw8]; exact (Below.heap_setCell _ ⟨w.heap.size + 1, 0, none⟩ _ _ (by simp; omega)).trans ((Below.heap_setCell _ ⟨w.heap.size, 1, none⟩ _ _ (by simp; omega)).trans (Below.heap_setCell _ ⟨w.heap.size, 0, none⟩ _ _ (by simp; omega)))
          have hK8 := (hkk wL.heap.size (by omega)).trans HK5.out
          have hlie := CellsLie.of_put (.deferred none) hK8 rfl
          have hbp8 := hB8.trans (below_put (n₀ := w.heap.size) (.deferred none) (by omega) hK8)
          have zz0 := (hA8.lie hlie).cell (i := 0) rfl
          have zz1 := (hA8.lie hlie).cell (i := 1) rfl
          have zz2 := (hE8.lie hlie).cell (i := 0) rfl
          have hr8 := ((HR5.out.setAt hzf (by decide) (by decide) (Nat.zero_le _) 0 (.int .u32 T)).setAt (hzf.set 0 (.int .u32 T)) (by decide) (by decide) (Nat.zero_le _) 1 (.slice a' M.length c')).setAt hef2 (by decide) (by decide) (Nat.zero_le _) 0 (.int .i64 0)
          rw [hw8] at hr8
          have ho8 : OwnBodies w.heap.size w8 M := HO5.out.of_rows fun k cs hk => by
            have n0 : k ≠ w.heap.size := fun e => by subst e; unfold Arr at hzf; rw [hzf] at hk; simp at hk
            have n1 : k ≠ w.heap.size + 1 := fun e => by subst e; unfold Arr at hef; rw [hef] at hk; simp at hk
            rw [← hw8]
            exact (Below.heap_setCell _ ⟨w.heap.size + 1, 0, none⟩ _ _ n1).trans ((Below.heap_setCell _ ⟨w.heap.size, 1, none⟩ _ _ n0).trans (Below.heap_setCell _ ⟨w.heap.size, 0, none⟩ _ _ n0))
          have HRO := Lib.hid (And.intro (hr8.lie hlie).rows (ho8.lie hlie))
          have HE := Lib.hid hbp8
          have HK8 := Lib.hid hK8
          clear hA8 hE8 hB8 hzf hef hef2 hbf hkk hlie hbp8 hK8 hS1 hr8 ho8
          gi_wp2
          refine ⟨by simp, .inl ⟨_, _, rfl, run_takeDeferred HK8.out, ?_⟩⟩
          exact ⟨_, (by simp [results, Try.results22, go_sem, zz0, zz1, zz2] <;> rfl), .inr (.inr (.inr ⟨HLE.out, HSO.out, M, a', M.length, c', HIS.out, by rw [HT.out], HRO.out.1, hcnt, HRO.out.2⟩)), HE.out⟩
      · skip
        have e2 : (P2 != 5000) = true := by simpa using h2
        have HNP := Lib.hid (show ∀ N, ¬ IsP b N from fun N h => h2 (HP2.out.symm.trans (isP_ports h).2))
        clear h0 h2
        gi_wp2_with fail
        refine ⟨trivial, ?_⟩
        refine (callsIn_wide.2 HG0.out).mono ?_
        rintro e W1 ⟨rfl, rfl⟩
        gi_wp2_with fail
        refine ⟨trivial, ?_⟩
        refine (callsIn_wide.2 HG2.out).mono ?_
        rintro e W1 ⟨rfl, rfl⟩
        have hS1 := HSL.out
        have hzf := HI.out.1
        have hef := HI.out.2.1
        have hbf := HI.out.2.2
        obtain ⟨w8, hw8⟩ : ∃ x, ((W.setCell ⟨w.heap.size, 0, none⟩ (.int .u32 0)).setCell ⟨w.heap.size, 1, none⟩ (.slice none 0 0)).setCell ⟨w.heap.size + 1, 0, none⟩ (.int .i64 7) = x := ⟨_, rfl⟩
        have hef2 : Arr ((W.setCell ⟨w.heap.size, 0, none⟩ (.int .u32 0)).setCell ⟨w.heap.size, 1, none⟩ (.slice none 0 0)) (w.heap.size + 1) 37 _ := (Below.heap_setCell _ ⟨w.heap.size, 1, none⟩ _ _ (by simp)).trans ((Below.heap_setCell W ⟨w.heap.size, 0, none⟩ _ _ (by simp)).trans hef)
        have hA8 : Arr _ w.heap.size 25 [.int .u32 0, .slice none 0 0] := (Below.heap_setCell _ ⟨w.heap.size + 1, 0, none⟩ (.int .i64 7) _ (by simp)).trans ((hzf.set 0 (.int .u32 0)).set 1 (.slice none 0 0))
        have hE8 : Arr _ (w.heap.size + 1) 37 [.int .i64 7] := hef2.set 0 (.int .i64 7)
        have hB8 := ((hbf.setCell (p := ⟨w.heap.size, 0, none⟩) (by simp) (.int .u32 0)).setCell (p := ⟨w.heap.size, 1, none⟩) (by simp) (.slice none 0 0)).setCell (p := ⟨w.heap.size + 1, 0, none⟩) (by simp) (.int .i64 7)
        rw [hw8] at hA8 hE8 hB8
        have fs0 := hzf.free 0
        have fs1 := hzf.free 1
        have fs2 := hef.free 0
        have yy0 := hzf.cell (i := 0) rfl
        have yy1 := hzf.cell (i := 1) rfl
        have yy2 := hef.cell (i := 0) rfl
        have fs3 := hef2.free 0
        have yy3 := hef2.cell (i := 0) rfl
        have zz0 := hA8.cell (i := 0) rfl
        have zz1 := hA8.cell (i := 1) rfl
        have zz2 := hE8.cell (i := 0) rfl
        have hkk : ∀ k, w.heap.size + 2 ≤ k → w8.heap[k]? = W.heap[k]? := fun k hk => by rw [← hw8]; exact (Below.heap_setCell _ ⟨w.heap.size + 1, 0, none⟩ _ _ (by simp; omega)).trans ((Below.heap_setCell _ ⟨w.heap.size, 1, none⟩ _ _ (by simp; omega)).trans (Below.heap_setCell _ ⟨w.heap.size, 0, none⟩ _ _ (by simp; omega)))
        have hK8 := (hkk wL.heap.size (by omega)).trans HKD.out
        have hlie := CellsLie.of_put (.deferred none) hK8 rfl
        have hbp8 := hB8.trans (below_put (n₀ := w.heap.size) (.deferred none) (by omega) hK8)
        have zz0 := (hA8.lie hlie).cell (i := 0) rfl
        have zz1 := (hA8.lie hlie).cell (i := 1) rfl
        have zz2 := (hE8.lie hlie).cell (i := 0) rfl
        have HE := Lib.hid hbp8
        have HK8 := Lib.hid hK8
        clear hA8 hE8 hB8 hzf hef hef2 hbf hkk hlie hbp8 hK8 hS1
        gi_wp2
        refine ⟨trivial, ?_⟩
        gi_wp2
        refine ⟨by simp, .inl ⟨_, _, rfl, run_takeDeferred HK8.out, ?_⟩⟩
        exact ⟨_, (by simp [results, Try.results22, go_sem, zz0, zz1, zz2] <;> rfl), .inr (.inr (.inl ⟨HLE.out, HSO.out, HNP.out, rfl⟩)), HE.out⟩
    · skip
      have e0 : (P0 != 5000) = true := by simpa using h0
      have HNP := Lib.hid (show ∀ N, ¬ IsP b N from fun N h => h0 (HP0.out.symm.trans (isP_ports h).1))
      clear h0
      gi_wp2_with fail
      refine ⟨trivial, ?_⟩
      refine (callsIn_wide.2 HG0.out).mono ?_
      rintro e W1 ⟨rfl, rfl⟩
      have hS1 := HSL.out
      have hzf := HI.out.1
      have hef := HI.out.2.1
      have hbf := HI.out.2.2
      obtain ⟨w8, hw8⟩ : ∃ x, ((W.setCell ⟨w.heap.size, 0, none⟩ (.int .u32 0)).setCell ⟨w.heap.size, 1, none⟩ (.slice none 0 0)).setCell ⟨w.heap.size + 1, 0, none⟩ (.int .i64 7) = x := ⟨_, rfl⟩
      have hef2 : Arr ((W.setCell ⟨w.heap.size, 0, none⟩ (.int .u32 0)).setCell ⟨w.heap.size, 1, none⟩ (.slice none 0 0)) (w.heap.size + 1) 37 _ := (Below.heap_setCell _ ⟨w.heap.size, 1, none⟩ _ _ (by simp)).trans ((Below.heap_setCell W ⟨w.heap.size, 0, none⟩ _ _ (by simp)).trans hef)
      have hA8 : Arr _ w.heap.size 25 [.int .u32 0, .slice none 0 0] := (Below.heap_setCell _ ⟨w.heap.size + 1, 0, none⟩ (.int .i64 7) _ (by simp)).trans ((hzf.set 0 (.int .u32 0)).set 1 (.slice none 0 0))
      have hE8 : Arr _ (w.heap.size + 1) 37 [.int .i64 7] := hef2.set 0 (.int .i64 7)
      have hB8 := ((hbf.setCell (p := ⟨w.heap.size, 0, none⟩) (by simp) (.int .u32 0)).setCell (p := ⟨w.heap.size, 1, none⟩) (by simp) (.slice none 0 0)).setCell (p := ⟨w.heap.size + 1, 0, none⟩) (by simp) (.int .i64 7)
      rw [hw8] at hA8 hE8 hB8
      have fs0 := hzf.free 0
      have fs1 := hzf.free 1
      have fs2 := hef.free 0
      have yy0 := hzf.cell (i := 0) rfl
      have yy1 := hzf.cell (i := 1) rfl
      have yy2 := hef.cell (i := 0) rfl
      have fs3 := hef2.free 0
      have yy3 := hef2.cell (i := 0) rfl
      have zz0 := hA8.cell (i := 0) rfl
      have zz1 := hA8.cell (i := 1) rfl
      have zz2 := hE8.cell (i := 0) rfl
      have hkk : ∀ k, w.heap.size + 2 ≤ k → w8.heap[k]? = W.heap[k]? := fun k hk => by rw [← hw8]; exact (Below.heap_setCell _ ⟨w.heap.size + 1, 0, none⟩ _ _ (by simp; omega)).trans ((Below.heap_setCell _ ⟨w.heap.size, 1, none⟩ _ _ (by simp; omega)).trans (Below.heap_setCell _ ⟨w.heap.size, 0, none⟩ _ _ (by simp; omega)))
      have hK8 := (hkk wL.heap.size (by omega)).trans HKD.out
      have hlie := CellsLie.of_put (.deferred none) hK8 rfl
      have hbp8 := hB8.trans (below_put (n₀ := w.heap.size) (.deferred none) (by omega) hK8)
      have zz0 := (hA8.lie hlie).cell (i := 0) rfl
      have zz1 := (hA8.lie hlie).cell (i := 1) rfl
      have zz2 := (hE8.lie hlie).cell (i := 0) rfl
      have HE := Lib.hid hbp8
      have HK8 := Lib.hid hK8
      clear hA8 hE8 hB8 hzf hef hef2 hbf hkk hlie hbp8 hK8 hS1
      gi_wp2
      refine ⟨trivial, ?_⟩
      gi_wp2
      refine ⟨trivial, ?_⟩
      gi_wp2
      refine ⟨by simp, .inl ⟨_, _, rfl, run_takeDeferred HK8.out, ?_⟩⟩
      exact ⟨_, (by simp [results, Try.results22, go_sem, zz0, zz1, zz2] <;> rfl), .inr (.inr (.inl ⟨HLE.out, HSO.out, HNP.out, rfl⟩)), HE.out⟩
theorem pr_ok : PkReadOk := fun a n c b w hr hz hc hn => by
  by_cases h12 : n < 12
  · exact pread_few a n c b w hr hz hc hn h12
  · cases hs : sumOk b with
    | false => exact pread_sum a n c b w hr hz hc hn (by omega) hs
    | true => exact pread_main a n c b w hr hz hc hn (by omega) hs
end Go.Proofs.Ytnndlpbbllmpjaa
