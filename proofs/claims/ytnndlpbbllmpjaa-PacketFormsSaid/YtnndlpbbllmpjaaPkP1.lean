/-
  Stage 10: the program's Alone, canShare, Size, number.
-/
import Derived.Test.YtnndlpbbllmpjaaPkRef1
import Derived.Test.YtnndlpbbllmpjaaMgA
import Derived.Test.YtnndlpbbllmpjaaPkApi
namespace Go.Proofs.Ytnndlpbbllmpjaa
open Go.RowKit
set_option linter.unusedVariables false

theorem palone_any (k : Int) (w : World) :
    Calls Try.prog 27 #[.int .u8 k] w fun e w' => e = .returned (.bool (aloneK k)) ∧ w = w' := by
  by_cases h1 : k = 1
  · subst h1
    go_enter Try.func27, Try.ntmps27
    go_wp2
    go_ret
    exact ⟨rfl, rfl⟩
  have e1 : (k == 1) = false := by simpa using h1
  by_cases h2 : k = 2
  · subst h2
    go_enter Try.func27, Try.ntmps27
    go_wp2
    go_ret
    exact ⟨rfl, rfl⟩
  have e2 : (k == 2) = false := by simpa using h2
  by_cases h3 : k = 14
  · subst h3
    go_enter Try.func27, Try.ntmps27
    go_wp2
    go_ret
    exact ⟨rfl, rfl⟩
  have e3 : (k == 14) = false := by simpa using h3
  have e : aloneK k = false := by unfold aloneK; simp [h1, h2, h3]
  rw [e]
  clear e h1 h2 h3
  go_enter Try.func27, Try.ntmps27
  go_wp2
  go_ret
  exact ⟨rfl, rfl⟩
theorem pa_ok : PkAloneOk := fun k w _ _ => palone_any k w

set_option maxRecDepth 4000 in
set_option maxHeartbeats 800000 in
theorem pmay_any (a : Option Addr) (n c : Nat) (L : List Ck) (w : World) (h : RowsCk w a n c L) (hn : n ≤ 1099511627776) :
    Calls Try.prog 31 #[.slice a n c] w fun e w' => e = .returned (.bool (mayB (pcs L))) ∧ Below w.heap.size w w' := by
  have hl : (pcs L).length = n := by rw [pcs_len]; exact h.hlen
  have HL := Lib.hid hl
  have HR := Lib.hid h
  clear h hl
  go_enter Try.func31, Try.ntmps31
  go_wp2
  go_loopw [7] (fun i wr => (∃ j : Nat, j ≤ n ∧ i = .int .i64 (j : Int) ∧ ((pcs L).take j).all (may1 n) = true) ∧ Below w.heap.size w wr) (fun i _ => n - (intOf i).toNat)
  case atStart => exact ⟨⟨0, Nat.zero_le _, rfl, rfl⟩, Below.refl _ _⟩
  case round =>
    obtain ⟨⟨j, hj, rfl, hall⟩, hbw⟩ := hrel
    have HBW := Lib.hid hbw
    clear hbw
    by_cases hjn : j < n
    · obtain ⟨b, off, r, ha, hr, hk, h0, h1, h2⟩ := (HR.out.below HBW.out).get hjn
      have hp := pcs_at hr
      have hnx := mayB_next (n := n) hp
      rw [hall, Bool.true_and] at hnx
      have hmay : (pcs L).all (may1 n) = true → may1 n r.pc = true := fun h => by rw [List.all_eq_true] at h; exact h _ (List.mem_of_getElem? hp)
      have HNX := Lib.hid (And.intro hnx hmay)
      have hrn : r.n = r.zs.length := hk.reads.1.symm
      have hcm : r.n ≤ 9223372036854775807 := by have := hk.le; have := hk.cap; unfold maxLen at *; omega
      have HRN := Lib.hid hrn
      subst ha
      clear hall hnx hmay hrn hk hp hr
      have hj0 : (0 : Int) ≤ (j : Int) := by omega
      have hj1 : (j : Int) < (n : Int) := by omega
      obtain ⟨w2, hw2⟩ : ∃ w2, wr.alloc (.cells #[.int .u8 r.k, .int .u8 r.f, .slice r.a r.n r.c] 41) = w2 := ⟨_, rfl⟩
      have hb2 : Below wr.heap.size wr w2 := by rw [← hw2]; exact (Below.refl _ _).alloc (Nat.le_refl _) _
      have hA : Arr w2 wr.heap.size 41 [.int .u8 r.k, .int .u8 r.f, .slice r.a r.n r.c] := by rw [← hw2]; exact arr_new _ _ _
      have d0 := hA.cell (i := 0) rfl
      have d2 := hA.cell (i := 2) rfl
      have HB2 := Lib.hid (HBW.out.trans (hb2.mono HBW.out.size))
      clear hA hb2
      by_cases hb : r.n ≤ 65531
      · have hbd : decide ((65531 : Int) < (r.n : Int)) = false := by simp; omega
        cases hal : aloneK r.k with
        | false =>
          have HA := Lib.hid (palone_any r.k w2)
          rw [hal] at HA
          have hm : may1 n r.pc = true := by unfold may1; simp [Ck.pc, hal, ← HRN.out, hb]
          have HM := Lib.hid (HNX.out.1.trans hm)
          clear HNX hal hm hb
          go_wp2_with (go_at_call 27; refine HA.out.mono ?_; rintro e w' ⟨rfl, rfl⟩)
          go_roundw
          case rel => exact ⟨⟨j + 1, by omega, congrArg (Value.int .i64) (by omega), HM.out⟩, HB2.out⟩
          case measure => simp [intOf]; omega
        | true =>
          have HA := Lib.hid (palone_any r.k w2)
          rw [hal] at HA
          by_cases hn1 : 1 < n
          · have hn1i : (1 : Int) < (n : Int) := by omega
            have hm : may1 n r.pc = false := by unfold may1; simp [Ck.pc, hal, hn1]
            have hB : mayB (pcs L) = false := by
              unfold mayB
              rw [HL.out]
              cases hq : (pcs L).all (may1 n) with
              | false => rfl
              | true => rw [HNX.out.2 hq] at hm; cases hm
            have HBB := Lib.hid hB
            clear HNX hal hm hb hn1 hB
            go_wp2_with (go_at_call 27; refine HA.out.mono ?_; rintro e w' ⟨rfl, rfl⟩)
            go_ret
            exact ⟨by rw [HBB.out]; rfl, HB2.out⟩
          · have hn1d : decide ((1 : Int) < (n : Int)) = false := by simp; omega
            have hm : may1 n r.pc = true := by unfold may1; simp [Ck.pc, hal, hn1, ← HRN.out, hb]
            have HM := Lib.hid (HNX.out.1.trans hm)
            clear HNX hal hm hb hn1
            go_wp2_with (go_at_call 27; refine HA.out.mono ?_; rintro e w' ⟨rfl, rfl⟩)
            go_roundw
            case rel => exact ⟨⟨j + 1, by omega, congrArg (Value.int .i64) (by omega), HM.out⟩, HB2.out⟩
            case measure => simp [intOf]; omega
      · have hbd : (65531 : Int) < (r.n : Int) := by omega
        have hm : may1 n r.pc = false := by unfold may1; simp [Ck.pc, ← HRN.out, hb]
        have hB : mayB (pcs L) = false := by
          unfold mayB
          rw [HL.out]
          cases hq : (pcs L).all (may1 n) with
          | false => rfl
          | true => rw [HNX.out.2 hq] at hm; cases hm
        have HBB := Lib.hid hB
        clear HNX hm hb hB
        go_wp2
        go_ret
        exact ⟨by rw [HBB.out]; rfl, HB2.out⟩
    · obtain rfl : n = j := by omega
      have hB : mayB (pcs L) = decide (0 < n) := by
        unfold mayB
        rw [HL.out]
        rw [List.take_of_length_le (by rw [HL.out]; exact Nat.le_refl _)] at hall
        rw [hall, Bool.true_and]
      have HBB := Lib.hid hB
      clear hall hB
      by_cases h0 : 0 < n
      · have h0i : (0 : Int) < (n : Int) := by omega
        have HD := Lib.hid h0
        clear h0
        go_wp2
        go_ret
        exact ⟨by rw [HBB.out, decide_eq_true HD.out]; rfl, HBW.out⟩
      · obtain rfl : n = 0 := by omega
        go_wp2
        go_ret
        exact ⟨by rw [HBB.out]; rfl, HBW.out⟩

set_option maxRecDepth 4000 in
set_option maxHeartbeats 800000 in
theorem psize_any (tag : Int) (a : Option Addr) (n c : Nat) (L : List Ck) (w : World) (h : RowsCk w a n c L) (hn : n ≤ 1099511627776) (hs : sizeP (pcs L) ≤ 4611686018427387903) :
    Calls Try.prog 15 #[.agg #[.int .u32 tag, .slice a n c]] w fun e w' => e = .returned (.int .i64 ((sizeP (pcs L) : Nat) : Int)) ∧ Below w.heap.size w w' := by
  obtain ⟨w0, hw0⟩ : ∃ w0, w.alloc (.cells #[.int .u32 tag, .slice a n c] 25) = w0 := ⟨_, rfl⟩
  have hb0 : Below w.heap.size w w0 := by rw [← hw0]; exact (Below.refl _ _).alloc (Nat.le_refl _) _
  have hA : Arr w0 w.heap.size 25 [.int .u32 tag, .slice a n c] := by rw [← hw0]; exact arr_new _ _ _
  have c1 := hA.cell (i := 1) rfl
  have hl : (pcs L).length = n := by rw [pcs_len]; exact h.hlen
  have HL := Lib.hid hl
  have HR := Lib.hid (h.below hb0)
  have HB := Lib.hid hb0
  clear h hl hA hb0
  go_enter Try.func15, Try.ntmps15
  go_wp2
  go_loopw [3, 9] (fun s i wr => (∃ j : Nat, j ≤ n ∧ i = .int .i64 (j : Int) ∧ s = .int .i64 ((sizeP ((pcs L).take j) : Nat) : Int)) ∧ Below w0.heap.size w0 wr) (fun _ i _ => n - (intOf i).toNat)
  case atStart => exact ⟨⟨0, Nat.zero_le _, rfl, rfl⟩, Below.refl _ _⟩
  case round =>
    obtain ⟨⟨j, hj, rfl, rfl⟩, hbw⟩ := hrel
    have HBW := Lib.hid hbw
    clear hbw
    by_cases hjn : j < n
    · obtain ⟨b, off, r, ha, hr, hk, h0, h1, h2⟩ := (HR.out.below HBW.out).get hjn
      have hnx := sizeP_next (pcs_at hr)
      have hle := sizeP_take (pcs L) (j + 1)
      have hrn : r.zs.length = r.n := hk.reads.1
      have hsc : sizeC r.pc = 4 + up4 r.n := by unfold sizeC; rw [← hrn]; rfl
      rw [hsc] at hnx
      have hup := up4_ge r.n
      obtain ⟨S, hS⟩ : ∃ S, sizeP ((pcs L).take j) = S := ⟨_, rfl⟩
      obtain ⟨S', hS'⟩ : ∃ S', sizeP ((pcs L).take (j + 1)) = S' := ⟨_, rfl⟩
      rw [hS, hS'] at hnx
      rw [hS'] at hle
      rw [hS]
      obtain ⟨w2, hw2⟩ : ∃ w2, wr.alloc (.cells #[.int .u8 r.k, .int .u8 r.f, .slice r.a r.n r.c] 41) = w2 := ⟨_, rfl⟩
      have hb2 : Below wr.heap.size wr w2 := by rw [← hw2]; exact (Below.refl _ _).alloc (Nat.le_refl _) _
      have hA : Arr w2 wr.heap.size 41 [.int .u8 r.k, .int .u8 r.f, .slice r.a r.n r.c] := by rw [← hw2]; exact arr_new _ _ _
      have d2 := hA.cell (i := 2) rfl
      have HB2 := Lib.hid (HBW.out.trans (hb2.mono HBW.out.size))
      have hrd := round_nat r.n w2 (by omega)
      obtain ⟨U, hU⟩ : ∃ U, up4 r.n = U := ⟨_, rfl⟩
      rw [hU] at hrd hnx hup
      have HRD := Lib.hid hrd
      have HS := Lib.hid hS'
      have HN := Lib.hid hnx
      have hSU : S + 4 + U ≤ 4611686018427387903 := by omega
      subst ha
      clear hS hS' hsc hrn hk hr hle hrd hU hnx hA hb2
      have hj0 : (0 : Int) ≤ (j : Int) := by omega
      have hj1 : (j : Int) < (n : Int) := by omega
      go_wp2_with (go_at_call 35; refine HRD.out.mono ?_; rintro e w' ⟨rfl, rfl⟩)
      go_roundw
      case rel => exact ⟨⟨j + 1, by omega, congrArg (Value.int .i64) (by omega), congrArg (Value.int .i64) (by rw [HS.out, HN.out]; omega)⟩, HB2.out⟩
      case measure => simp [intOf]; omega
    · obtain rfl : n = j := by omega
      go_wp2
      go_ret
      exact ⟨by rw [List.take_of_length_le (by rw [HL.out]; exact Nat.le_refl _)]; rfl, HB.out.trans (HBW.out.mono HB.out.size)⟩
theorem ps_ok : PkSizeOk := fun tag a n c L w h hn hs => psize_any tag a n c L w h (by omega) hs
end Go.Proofs.Ytnndlpbbllmpjaa
