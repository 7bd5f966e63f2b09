/-
  Stage 10: the reference's Alone, May, Size.
-/
import Derived.Test.YtnndlpbbllmpjaaPkMath
import Derived.Test.YtnndlpbbllmpjaaMgB
import Derived.Test.YtnndlpbbllmpjaaMgA
namespace Go.Proofs.Ytnndlpbbllmpjaa
open Go.RowKit
set_option linter.unusedVariables false

/-- The chunks as they are told. -/
def Ck.pc (r : Ck) : PC := ⟨r.k, r.f, r.zs⟩
def pcs (L : List Ck) : List PC := L.map Ck.pc
theorem pcs_len (L : List Ck) : (pcs L).length = L.length := by simp [pcs]
theorem pcs_at {L : List Ck} {i : Nat} {r : Ck} (h : L[i]? = some r) : (pcs L)[i]? = some r.pc := by simp [pcs, h]

theorem ralone_any (k : Int) (w : World) :
    Calls Try.prog 28 #[.int .u8 k] w fun e w' => e = .returned (.bool (aloneK k)) ∧ w = w' := by
  have fls : ∀ {b : Bool}, ¬ b = true → b = false := fun h => by simpa using h
  by_cases h1 : k = 1
  · subst h1
    go_enter Try.func28, Try.ntmps28
    go_wp2
    go_ret
    exact ⟨rfl, rfl⟩
  have e1 : (k == 1) = false := by simpa using h1
  by_cases h2 : k = 2
  · subst h2
    go_enter Try.func28, Try.ntmps28
    go_wp2
    go_ret
    exact ⟨rfl, rfl⟩
  have e2 : (k == 2) = false := by simpa using h2
  by_cases h3 : k = 14
  · subst h3
    go_enter Try.func28, Try.ntmps28
    go_wp2
    go_ret
    exact ⟨rfl, rfl⟩
  have e3 : (k == 14) = false := by simpa using h3
  have e : aloneK k = false := by unfold aloneK; simp [h1, h2, h3]
  rw [e]
  clear e h1 h2 h3 fls
  go_enter Try.func28, Try.ntmps28
  go_wp2
  go_ret
  exact ⟨rfl, rfl⟩

set_option maxRecDepth 4000 in
set_option maxHeartbeats 800000 in
theorem rmay_any (a : Option Addr) (n c : Nat) (L : List Ck) (w : World) (h : RowsCk w a n c L) (hn : n ≤ 1099511627776) :
    Calls Try.prog 36 #[.slice a n c] w fun e w' => e = .returned (.bool (mayB (pcs L))) ∧ w = w' := by
  have hl : (pcs L).length = n := by rw [pcs_len]; exact h.hlen
  have HL := Lib.hid hl
  have HR := Lib.hid h
  clear h hl
  go_enter Try.func36, Try.ntmps36
  go_wp2
  go_loop [3] (fun i => ∃ j : Nat, j ≤ n ∧ i = .int .i64 (j : Int) ∧ ((pcs L).take j).all (may1 n) = true) (fun i => n - (intOf i).toNat)
  case atStart => exact ⟨0, Nat.zero_le _, rfl, rfl⟩
  case round =>
    obtain ⟨j, hj, rfl, hall⟩ := hrel
    by_cases hjn : j < n
    · obtain ⟨b, off, r, ha, hr, hk, h0, h1, h2⟩ := HR.out.get hjn
      have hp := pcs_at hr
      have hnx := mayB_next (n := n) hp
      rw [hall, Bool.true_and] at hnx
      have hmay : (pcs L).all (may1 n) = true → may1 n r.pc = true := fun h => by rw [List.all_eq_true] at h; exact h _ (List.mem_of_getElem? hp)
      have HNX := Lib.hid (And.intro hnx hmay)
      have hrn : r.n = r.zs.length := hk.reads.1.symm
      have hcm : r.n ≤ 9223372036854775807 := by have := hk.le; have := hk.cap; unfold maxLen at *; omega
      have HRN := Lib.hid hrn
      subst ha
      clear hall hnx hmay hrn hk hp hr
      have hj0 : (0 : Int) ≤ (j : Int) := by omega
      have hj1 : (j : Int) < (n : Int) := by omega
      by_cases hb : r.n ≤ 65531
      · have hbd : decide ((65531 : Int) < (r.n : Int)) = false := by simp; omega
        cases hal : aloneK r.k with
        | false =>
          have HA := Lib.hid (ralone_any r.k w)
          rw [hal] at HA
          have hm : may1 n r.pc = true := by unfold may1; simp [Ck.pc, hal, ← HRN.out, hb]
          have HM := Lib.hid (HNX.out.1.trans hm)
          clear HNX hal hm hb
          go_wp2_with (go_at_call 28; refine HA.out.mono ?_; rintro e w' ⟨rfl, rfl⟩)
          exact ⟨⟨j + 1, by omega, congrArg (Value.int .i64) (by omega), HM.out⟩, by simp [intOf]; omega⟩
        | true =>
          have HA := Lib.hid (ralone_any r.k w)
          rw [hal] at HA
          by_cases hn1 : 1 < n
          · have hn1i : (1 : Int) < (n : Int) := by omega
            have hm : may1 n r.pc = false := by unfold may1; simp [Ck.pc, hal, hn1]
            have hB : mayB (pcs L) = false := by
              unfold mayB
              rw [HL.out]
              cases hq : (pcs L).all (may1 n) with
              | false => rfl
              | true => rw [HNX.out.2 hq] at hm; cases hm
            have HBB := Lib.hid hB
            clear HNX hal hm hb hn1 hB
            go_wp2_with (go_at_call 28; refine HA.out.mono ?_; rintro e w' ⟨rfl, rfl⟩)
            go_ret
            exact ⟨by rw [HBB.out]; rfl, rfl⟩
          · have hn1d : decide ((1 : Int) < (n : Int)) = false := by simp; omega
            have hm : may1 n r.pc = true := by unfold may1; simp [Ck.pc, hal, hn1, ← HRN.out, hb]
            have HM := Lib.hid (HNX.out.1.trans hm)
            clear HNX hal hm hb hn1
            go_wp2_with (go_at_call 28; refine HA.out.mono ?_; rintro e w' ⟨rfl, rfl⟩)
            exact ⟨⟨j + 1, by omega, congrArg (Value.int .i64) (by omega), HM.out⟩, by simp [intOf]; omega⟩
      · have hbd : (65531 : Int) < (r.n : Int) := by omega
        have hm : may1 n r.pc = false := by unfold may1; simp [Ck.pc, ← HRN.out, hb]
        have hB : mayB (pcs L) = false := by
          unfold mayB
          rw [HL.out]
          cases hq : (pcs L).all (may1 n) with
          | false => rfl
          | true => rw [HNX.out.2 hq] at hm; cases hm
        have HBB := Lib.hid hB
        clear HNX hm hb hB
        go_wp2
        go_ret
        exact ⟨by rw [HBB.out]; rfl, rfl⟩
    · obtain rfl : n = j := by omega
      have hB : mayB (pcs L) = decide (0 < n) := by
        unfold mayB
        rw [HL.out]
        rw [List.take_of_length_le (by rw [HL.out]; exact Nat.le_refl _)] at hall
        rw [hall, Bool.true_and]
      have HBB := Lib.hid hB
      clear hall hB
      by_cases h0 : 0 < n
      · have h0i : (0 : Int) < (n : Int) := by omega
        have HD := Lib.hid h0
        clear h0
        go_wp2
        go_ret
        exact ⟨by rw [HBB.out, decide_eq_true HD.out]; rfl, rfl⟩
      · obtain rfl : n = 0 := by omega
        go_wp2
        go_ret
        exact ⟨by rw [HBB.out]; rfl, rfl⟩

set_option maxRecDepth 4000 in
set_option maxHeartbeats 800000 in
theorem rsize_any (tag : Int) (a : Option Addr) (n c : Nat) (L : List Ck) (w : World) (h : RowsCk w a n c L) (hn : n ≤ 1099511627776) (hs : sizeP (pcs L) ≤ 4611686018427387903) :
    Calls Try.prog 18 #[.agg #[.int .u32 tag, .slice a n c]] w fun e w' => e = .returned (.int .i64 ((sizeP (pcs L) : Nat) : Int)) ∧ Below w.heap.size w w' := by
  obtain ⟨w0, hw0⟩ : ∃ w0, w.alloc (.cells #[.int .u32 tag, .slice a n c] 25) = w0 := ⟨_, rfl⟩
  have hb0 : Below w.heap.size w w0 := by rw [← hw0]; exact (Below.refl _ _).alloc (Nat.le_refl _) _
  have hA : Arr w0 w.heap.size 25 [.int .u32 tag, .slice a n c] := by rw [← hw0]; exact arr_new _ _ _
  have c1 := hA.cell (i := 1) rfl
  have hl : (pcs L).length = n := by rw [pcs_len]; exact h.hlen
  have HL := Lib.hid hl
  have HR := Lib.hid (h.below hb0)
  have HB := Lib.hid hb0
  clear h hl hA hb0
  go_enter Try.func18, Try.ntmps18
  go_wp2
  go_loop [3, 4] (fun s i => ∃ j : Nat, j ≤ n ∧ i = .int .i64 (j : Int) ∧ s = .int .i64 ((sizeP ((pcs L).take j) : Nat) : Int)) (fun _ i => n - (intOf i).toNat)
  case atStart => exact ⟨0, Nat.zero_le _, rfl, rfl⟩
  case round =>
    obtain ⟨j, hj, rfl, rfl⟩ := hrel
    by_cases hjn : j < n
    · obtain ⟨b, off, r, ha, hr, hk, h0, h1, h2⟩ := HR.out.get hjn
      have hnx := sizeP_next (pcs_at hr)
      have hle := sizeP_take (pcs L) (j + 1)
      have hrn : r.zs.length = r.n := hk.reads.1
      have hsc : sizeC r.pc = 4 + up4 r.n := by unfold sizeC; rw [← hrn]; rfl
      rw [hsc] at hnx
      have hup := up4_ge r.n
      obtain ⟨S, hS⟩ : ∃ S, sizeP ((pcs L).take j) = S := ⟨_, rfl⟩
      obtain ⟨S', hS'⟩ : ∃ S', sizeP ((pcs L).take (j + 1)) = S' := ⟨_, rfl⟩
      rw [hS, hS'] at hnx
      rw [hS'] at hle
      rw [hS]
      have hrd := roundR_nat r.n w0 (by omega)
      obtain ⟨U, hU⟩ : ∃ U, up4 r.n = U := ⟨_, rfl⟩
      rw [hU] at hrd hnx hup
      have HRD := Lib.hid hrd
      have HS := Lib.hid hS'
      have HN := Lib.hid hnx
      have hSU : S + 4 + U ≤ 4611686018427387903 := by omega
      subst ha
      clear hS hS' hsc hrn hk hr hle hrd hU hnx
      have hj0 : (0 : Int) ≤ (j : Int) := by omega
      have hj1 : (j : Int) < (n : Int) := by omega
      go_wp2_with (go_at_call 39; refine HRD.out.mono ?_; rintro e w' ⟨rfl, rfl⟩)
      exact ⟨⟨j + 1, by omega, congrArg (Value.int .i64) (by omega), congrArg (Value.int .i64) (by rw [HS.out, HN.out]; omega)⟩, by simp [intOf]; omega⟩
    · obtain rfl : n = j := by omega
      go_wp2
      go_ret
      exact ⟨by rw [List.take_of_length_le (by rw [HL.out]; exact Nat.le_refl _)]; rfl, HB.out⟩
end Go.Proofs.Ytnndlpbbllmpjaa
