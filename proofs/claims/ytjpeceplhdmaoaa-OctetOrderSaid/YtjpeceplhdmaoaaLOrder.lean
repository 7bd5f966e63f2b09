/-
  The walk of OctetOrder.
-/
import Derived.Test.YtjpeceplhdmaoaaWorks
import Derived.Test.YtjpeceplhdmaoaaFrame
import Derived.Test.YtjpeceplhdmaoaaLess
import Derived.Deep.RegionWith
import Derived.WalkLawsBesides
namespace Go.Proofs.Ytjpeceplhdmaoaa
open Go.RowKit
set_option linter.unusedVariables false

theorem convB (src e : TypeId) (hs : Try.prog.underlying src = some (.slice e)) (he : Try.prog.underlying e = some (.int .u8)) {w : World} {g n : Nat} {zs : List Int} (h : Blk w g zs) (hn : zs.length = n) :
    ∀ W, Below w.heap.size w W → (convert src 9 (.slice (some ⟨g, 0, none⟩) n n)).run Try.prog W = .ok (.string (strOfNums zs)) W := by
  intro W hb
  refine run_convert_bytes_arg W src e hs he g 0 n n zs hn (fun i hi => ?_) _ Try.underlying9
  have := (h.below hb).cell (i := i) (by omega)
  simpa [List.getD_eq_getElem?_getD] using this

theorem put_nil (n : Nat) (x : Int) (w : World) (h0 : 0 ≤ x) (h1 : x ≤ 18446744073709551615) (hn : sizB (n : Int) = true) :
    Calls Try.prog 16 #[.slice none 0 0, .int .u64 x, .int .i64 (n : Int)] w fun e w' =>
      e = .returned (.slice (some ⟨w.heap.size, 0, none⟩) n n) ∧ Below w.heap.size w w' ∧ Blk w' w.heap.size (enc x n) := by
  have := put_yes none 0 0 n x [] w (Reads.zero _ _) (by omega) h0 h1 hn
  simpa using this

set_option maxHeartbeats 1600000 in
set_option maxRecDepth 100000 in
theorem octetOrder_walk (a0 a1 : Int) (w : World) (w0 : (Lit.int .u64 a0).wf = true) (w1 : (Lit.int .u64 a1).wf = true) :
    Calls Try.prog 9 #[.int .u64 a0, .int .u64 a1] w fun e w' => e = .returned (.bool true) ∧ Below w.heap.size w w' := by
  obtain ⟨x0, x1⟩ := wf_u64_in w0
  obtain ⟨y0, y1⟩ := wf_u64_in w1
  clear w0 w1
  go_enter Try.func9, Try.ntmps9
  go_wp2_with fail
  go_loopw [6] (fun i wr => ∃ k : Nat, k ≤ 4 ∧ i = .int .i64 k ∧ Below (w.heap.size + 1) (w.alloc (.cells #[.int .i64 1, .int .i64 2, .int .i64 4, .int .i64 8] 3)) wr) (fun i _ => 4 - (intOf i).toNat)
  case atStart => exact ⟨0, by omega, rfl, Below.refl _ _⟩
  case round =>
    obtain ⟨k, hk, rfl, hb⟩ := hrel
    have HBl := Lib.hid (show Below w.heap.size w wr from ((Below.refl _ _).alloc (Nat.le_refl _) _).trans (hb.mono (by omega)))
    by_cases hlt : k < 4
    · obtain ⟨n, hn, hc⟩ : ∃ n : Nat, sizB (n : Int) = true ∧ wr.cell? ⟨w.heap.size, k, none⟩ = some (.int .i64 (n : Int)) := by
        have hc := fun j (hj : j < 4) => hb.cell (p := ⟨w.heap.size, j, none⟩) (by simp)
        match k, hlt with
        | 0, _ => exact ⟨1, by decide, by rw [hc 0 (by omega)]; simp⟩
        | 1, _ => exact ⟨2, by decide, by rw [hc 1 (by omega)]; simp⟩
        | 2, _ => exact ⟨4, by decide, by rw [hc 2 (by omega)]; simp⟩
        | 3, _ => exact ⟨8, by decide, by rw [hc 3 (by omega)]; simp⟩
      have hn8 : 1 ≤ n ∧ n ≤ 8 := by have := (sizB_iff n).1 hn; omega
      obtain ⟨hn1, hn8⟩ := hn8
      have HN := Lib.hid hn
      have HB0 := Lib.hid hb
      clear hn hb
      have hpow : (0 : Int) < 256 ^ n := Int.pow_pos (by omega)
      by_cases hfit : a0 < 256 ^ n ∧ a1 < 256 ^ n
      · obtain ⟨f0, f1⟩ := hfit
        have HLs := Lib.hid (less_enc a0 a1 n x0 f0 y0 f1)
        have e0 : a0 / 2 ^ (8 * n) = 0 := by rw [pow_8]; exact Int.ediv_eq_zero_of_lt x0 f0
        have e1 : a1 / 2 ^ (8 * n) = 0 := by rw [pow_8]; exact Int.ediv_eq_zero_of_lt y0 f1
        clear f0 f1 hpow
        have P0 := Lib.hid (fun W => put_nil n a0 W x0 x1 HN.out)
        have P1 := Lib.hid (fun W => put_nil n a1 W y0 y1 HN.out)
        go_wp2
        all_goals
          go_region_with (first
            | (go_at_call_of 16 (Value.int IntKind.u64 a0); refine (P0.out _).mono ?_; rintro e wa ⟨rfl, hba, hka⟩; have hra : Below wa.heap.size wa wa := Below.refl _ _; have cva := convB 22 5 Try.underlying22 Try.underlying5 (show Blk wa wr.heap.size (enc a0 n) from hka) (enc_length a0 n))
            | (go_at_call_of 16 (Value.int IntKind.u64 a1); refine (P1.out _).mono ?_; rintro e wb ⟨rfl, hbb, hkb⟩; have hrb : Below wb.heap.size wb wb := Below.refl _ _; have cvb := convB 22 5 Try.underlying22 Try.underlying5 hkb (enc_length a1 n)))
        all_goals
          have HE := Lib.hid (show Below (w.heap.size + 1) (w.alloc (.cells #[.int .i64 1, .int .i64 2, .int .i64 4, .int .i64 8] 3)) wb from by
            have s1 := HB0.out.size
            have s2 : Below wr.heap.size wr wa := ⟨hba.os, hba.tape, hba.output, hba.size, hba.block⟩
            have s3 := s2.size
            simp at s1
            exact (HB0.out.trans (s2.mono (by omega))).trans (hbb.mono (by omega)))
          clear cva cvb hba hbb hra hrb hka hkb hc
          go_wp2
          · exfalso
            rename_i h
            rw [HLs.out] at h
            simp at h
          · exact ⟨⟨k + 1, by omega, by go_num, HE.out⟩, by simp [intOf]; omega⟩
      · have h8 : (n : Int) < 8 := by
          rcases Nat.lt_or_ge n 8 with h | h
          · omega
          · obtain rfl : n = 8 := by omega
            exact absurd ⟨by omega, by omega⟩ hfit
        by_cases f0 : a0 < 256 ^ n
        · have f1 : ¬ a1 < 256 ^ n := fun h => hfit ⟨f0, h⟩
          have e0 : a0 / 2 ^ (8 * n) = 0 := by rw [pow_8]; exact Int.ediv_eq_zero_of_lt x0 f0
          have e1 : (a1 / 2 ^ (8 * n) == 0) = false := by
            rw [pow_8]
            have : 1 ≤ a1 / 256 ^ n := by rw [Int.le_ediv_iff_mul_le hpow]; omega
            simp; omega
          have e1' : (a1 / 2 ^ (8 * n) != 0) = true := by simp at e1 ⊢; exact e1
          clear hfit f0 f1 hpow
          go_wp2
          go_roundw
          case rel => exact ⟨k + 1, by omega, by go_num, HB0.out⟩
          case measure => simp [intOf]; omega
        · have e0 : (a0 / 2 ^ (8 * n) == 0) = false := by
            rw [pow_8]
            have : 1 ≤ a0 / 256 ^ n := by rw [Int.le_ediv_iff_mul_le hpow]; omega
            simp; omega
          have e0' : (a0 / 2 ^ (8 * n) != 0) = true := by simp at e0 ⊢; exact e0
          clear hfit f0 hpow
          go_wp2
          go_roundw
          case rel => exact ⟨k + 1, by omega, by go_num, HB0.out⟩
          case measure => simp [intOf]; omega
    · go_wp2_with (go_at_call 11; refine (works_any _).mono ?_; rintro e w' ⟨rfl, hb4⟩)
      go_ret
      exact ⟨rfl, HBl.out.trans (hb4.mono HBl.out.size)⟩
end Go.Proofs.Ytjpeceplhdmaoaa
