/-
  Stage 10: the reference's Fits.
-/
import Derived.Test.YtnndlpbbllmpjaaPkSpec
namespace Go.Proofs.Ytnndlpbbllmpjaa
open Go.RowKit
set_option linter.unusedVariables false
set_option linter.unusedSimpArgs false

/-- May these chunks, and this one behind them, go as one packet of at most so many bytes? -/
def fitsB (L : List PC) (c : PC) (mtu : Int) : Bool := mayB (L ++ [c]) && decide ((((sizeP (L ++ [c]) : Nat) : Int)) ≤ mtu)
theorem pcs_app (L M : List Ck) : pcs (L ++ M) = pcs L ++ pcs M := by simp [pcs]
theorem CkOk.off {w : World} {r : Ck} (h : CkOk w r) : OffC w.heap.size w r := by
  intro hn p hp
  rcases h.reads.2 with h1 | ⟨b, off, ha, hlt, _⟩
  · omega
  · rw [ha] at hp; cases hp; exact .inl hlt

set_option maxRecDepth 100000 in
set_option maxHeartbeats 1600000 in
theorem rfits_any (tag : Int) (a : Option Addr) (n c : Nat) (L : List Ck) (r : Ck) (mtu : Int) (w : World) (h : RowsCk w a n c L) (hr : CkOk w r) (hn : n ≤ 1048575) (hs : sizeP (pcs L ++ [r.pc]) ≤ 4611686018427387903) (hm0 : -9223372036854775808 ≤ mtu) (hm1 : mtu ≤ 9223372036854775807) :
    Calls Try.prog 26 #[.agg #[.int .u32 tag, .slice a n c], .agg #[.int .u8 r.k, .int .u8 r.f, .slice r.a r.n r.c], .int .i64 mtu] w fun e w' => e = .returned (.bool (fitsB (pcs L) r.pc mtu)) ∧ Below w.heap.size w w' := by
  obtain ⟨w0, hw0⟩ : ∃ w0, w.alloc (.cells #[.int .u32 tag, .slice a n c] 25) = w0 := ⟨_, rfl⟩
  have hb0 : Below w.heap.size w w0 := by rw [← hw0]; exact (Below.refl _ _).alloc (Nat.le_refl _) _
  have hs0 : w0.heap.size = w.heap.size + 1 := by rw [← hw0]; simp
  have hA : Arr w0 w.heap.size 25 [.int .u32 tag, .slice a n c] := by rw [← hw0]; exact arr_new _ _ _
  obtain ⟨w1, hw1⟩ : ∃ w1, w0.alloc (.cells #[.int .u8 r.k, .int .u8 r.f, .slice r.a r.n r.c] 41) = w1 := ⟨_, rfl⟩
  have hb1 : Below w0.heap.size w0 w1 := by rw [← hw1]; exact (Below.refl _ _).alloc (Nat.le_refl _) _
  have hC : Arr w1 w0.heap.size 41 [.int .u8 r.k, .int .u8 r.f, .slice r.a r.n r.c] := by rw [← hw1]; exact arr_new _ _ _
  have hA1 := hA.keep hb1
  have hb01 := hb0.trans (hb1.mono hb0.size)
  obtain ⟨a2, c2, W2, hrun2, H2⟩ := RowsCk.appends (base := w1.heap.size) rfl a n c L (h.below hb01) (by omega)
  have hb2 := H2.out.2
  have hC2 := hC.keep hb2
  obtain ⟨W3, hW3⟩ : ∃ W3, W2.alloc (.cells #[.int .u8 r.k, .int .u8 r.f, .slice r.a r.n r.c] 41) = W3 := ⟨_, rfl⟩
  have hb3 : Below W2.heap.size W2 W3 := by rw [← hW3]; exact (Below.refl _ _).alloc (Nat.le_refl _) _
  have hA3 : Arr W3 W2.heap.size 41 r.cells := by rw [← hW3]; exact arr_new _ _ _
  have hb13 := hb2.trans (hb3.mono hb2.size)
  have hb03 := hb01.trans (hb13.mono hb01.size)
  have hr3 := hr.below hb03
  have ho3 : OffC w1.heap.size W3 r := fun hn p hp => (hr.off hn p hp).imp (fun h => by have := hb01.size; omega) (fun ⟨cs, h⟩ => ⟨cs, (hb03.block _ (Array.getElem?_eq_some_iff.1 h).1).trans h⟩)
  obtain ⟨a4, c4, W4, hrun4, H4⟩ := (H2.out.1.keep hb3).add1 (by have := hb13.size; omega) (by omega) W2.heap.size r hA3 hr3
  have hrow4 := RowC.added (H2.out.1.keep hb3) hr3 ho3 H4.out.1 H4.out.2
  have hb4 : Below w.heap.size w W4 := ⟨H4.out.2.os.trans hb03.os, H4.out.2.tape.trans hb03.tape, H4.out.2.output.trans hb03.output, Nat.le_trans hb03.size H4.out.2.size, fun q hq => (H4.out.2.block q (Nat.lt_of_lt_of_le hq hb03.size) (fun e => by have := (World.ownsRow.lt (H2.out.1.keep hb3).own q e.symm).1; have := hb01.size; omega)).trans (hb03.block q hq)⟩
  have hp4 : pcs (L ++ [r]) = pcs L ++ [r.pc] := by rw [pcs_app]; rfl
  have hmay := rmay_any a4 (n + 1) c4 (L ++ [r]) W4 hrow4.rows (by omega)
  have hsz := rsize_any 0 a4 (n + 1) c4 (L ++ [r]) W4 hrow4.rows (by omega) (by rw [hp4]; exact hs)
  rw [hp4] at hmay hsz
  have HRUN2 := Lib.hid hrun2
  have HRUN4 := Lib.hid hrun4
  have HB4 := Lib.hid hb4
  have d1 := hA1.cell (i := 1) rfl
  have e0 := hC2.cell (i := 0) rfl
  have e1 := hC2.cell (i := 1) rfl
  have e2 := hC2.cell (i := 2) rfl
  obtain ⟨SZ, hSZ⟩ : ∃ SZ, sizeP (pcs L ++ [r.pc]) = SZ := ⟨_, rfl⟩
  have hfit : fitsB (pcs L) r.pc mtu = (mayB (pcs L ++ [r.pc]) && decide ((SZ : Int) ≤ mtu)) := by unfold fitsB; rw [hSZ]
  rw [hSZ] at hsz hs
  rw [hfit]
  have HMAY := Lib.hid hmay
  have HSZ := Lib.hid hsz
  clear h hr hb0 hs0 hA hb1 hC hA1 hb01 hrun2 H2 hb2 hC2 hb3 hA3 hb13 hb03 hr3 ho3 hrun4 H4 hrow4 hb4 hp4 hmay hsz hfit hSZ
  cases hm : mayB (pcs L ++ [r.pc]) with
  | false =>
    rw [hm] at HMAY
    rw [Bool.false_and]
    clear hm
    go_enter Try.func26, Try.ntmps26
    go_wp2_with (at_builtin; first | refine wpList_append_run rfl _ _ _ rfl _ _ _ _ rfl rfl HRUN2.out ?_ | refine wpList_append_run rfl _ _ _ rfl _ _ _ _ rfl rfl HRUN4.out ?_)
    refine HMAY.out.mono ?_
    rintro e w' ⟨rfl, rfl⟩
    go_wp2
    go_ret
    exact ⟨rfl, HB4.out⟩
  | true =>
    rw [hm] at HMAY
    rw [Bool.true_and]
    clear hm
    by_cases hle : (SZ : Int) ≤ mtu
    · rw [decide_eq_true hle]
      go_enter Try.func26, Try.ntmps26
      go_wp2_with (at_builtin; first | refine wpList_append_run rfl _ _ _ rfl _ _ _ _ rfl rfl HRUN2.out ?_ | refine wpList_append_run rfl _ _ _ rfl _ _ _ _ rfl rfl HRUN4.out ?_)
      refine HMAY.out.mono ?_
      rintro e w' ⟨rfl, rfl⟩
      go_wp2_with fail
      refine HSZ.out.mono ?_
      rintro e w5 ⟨rfl, hb5⟩
      have HB5 := Lib.hid (HB4.out.trans (hb5.mono HB4.out.size))
      clear hb5 HB4
      go_wp2
      go_ret
      exact ⟨rfl, HB5.out⟩
    · have hld : decide ((SZ : Int) ≤ mtu) = false := decide_eq_false hle
      rw [hld]
      clear hle
      go_enter Try.func26, Try.ntmps26
      go_wp2_with (at_builtin; first | refine wpList_append_run rfl _ _ _ rfl _ _ _ _ rfl rfl HRUN2.out ?_ | refine wpList_append_run rfl _ _ _ rfl _ _ _ _ rfl rfl HRUN4.out ?_)
      refine HMAY.out.mono ?_
      rintro e w' ⟨rfl, rfl⟩
      go_wp2_with fail
      refine HSZ.out.mono ?_
      rintro e w5 ⟨rfl, hb5⟩
      have HB5 := Lib.hid (HB4.out.trans (hb5.mono HB4.out.size))
      clear hb5 HB4
      go_wp2
      go_ret
      exact ⟨rfl, HB5.out⟩
end Go.Proofs.Ytnndlpbbllmpjaa
