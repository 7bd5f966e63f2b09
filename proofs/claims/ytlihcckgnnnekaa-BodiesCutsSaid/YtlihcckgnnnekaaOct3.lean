/-
  The contract of package octet's Put.
-/
import Derived.Test.YtlihcckgnnnekaaOct2
import Derived.Test.YtlihcckgnnnekaaEnc
namespace Go.Proofs.Ytlihcckgnnnekaa
set_option linter.unusedVariables false
open Go.RowKit

set_option maxHeartbeats 400000 in
theorem put_yes (a : Option Addr) (len cap n : Nat) (x : Int) (zs : List Int) (w : World) (hr : Reads w a len zs) (hl : len ≤ 140737488355328) (hx0 : 0 ≤ x) (hx1 : x ≤ 18446744073709551615) (hn : sizB (n : Int) = true) :
    Calls Try.prog 71 #[.slice a len cap, .int .u64 x, .int .i64 (n : Int)] w fun e w' =>
      e = .returned (.slice (some ⟨w.heap.size, 0, none⟩) (len + n) (len + n)) ∧ Below w.heap.size w w' ∧ Blk w' w.heap.size (zs ++ enc x n) := by
  have hn8 : n ≤ 8 := by have := (sizB_iff n).1 hn; omega
  have hs := fun W => isSize_any (n : Int) W
  rw [hn] at hs
  have hs := Lib.hid hs
  clear hn
  go_enter Try.func71, Try.ntmps71
  go_wp2_with (first
    | (go_at_call 80; refine (hs.out _).mono ?_; rintro e w' ⟨rfl, rfl⟩)
    | (go_at_call 74; refine (extend_any a len cap n zs w hr (by omega)).mono ?_; rintro e w1 ⟨rfl, hb1, hk1⟩))
  go_loopw [18] (fun i wr => ∃ k : Nat, k ≤ n ∧ i = .int .i64 k ∧ Below w.heap.size w wr ∧ Blk wr w.heap.size (zs ++ List.replicate (n - k) 0 ++ enc x k)) (fun i _ => n - (intOf i).toNat)
  case atStart => exact ⟨0, Nat.zero_le _, rfl, hb1, by simpa [enc] using hk1⟩
  case round =>
    obtain ⟨k, hk, rfl, hb, hblk⟩ := hrel
    have hz := hr.1
    by_cases hlt : k < n
    · have hc : wr.cell? ⟨w.heap.size, len + n - 1 - k, none⟩ = some (.int .u8 ((zs ++ List.replicate (n - k) 0 ++ enc x k)[len + n - 1 - k]?.getD 0)) := hblk.cell (by simp; omega)
      have hf := hblk.free (len + n - 1 - k)
      have HB := Lib.hid hblk
      have HZ := Lib.hid hz
      clear hblk hz
      go_wp2
      go_roundw
      case rel =>
        refine ⟨k + 1, by omega, by go_num, hb.setCell (Nat.le_refl _) _, ?_⟩
        have h := HB.out.set (len + n - 1 - k) (x / 2 ^ (8 * k) % 256)
        have hz := HZ.out
        rw [show n - k = (n - (k + 1)) + 1 from by omega, put_step zs (n - (k + 1)) _ _ _ (by omega), pow_8] at h
        simpa [enc, pow_8] using h
      case measure => simp [intOf]; omega
    · go_wp2
      go_ret
      obtain rfl : k = n := by omega
      exact ⟨rfl, hb, by simpa using hblk⟩

set_option maxHeartbeats 400000 in
theorem put_no (a : Option Addr) (len cap : Nat) (n x : Int) (zs : List Int) (w : World) (hr : Reads w a len zs) (hl : len ≤ 140737488355328) (hn : sizB n = false) :
    Calls Try.prog 71 #[.slice a len cap, .int .u64 x, .int .i64 n] w fun e w' =>
      e = .returned (.slice (some ⟨w.heap.size, 0, none⟩) len len) ∧ Below w.heap.size w w' ∧ Blk w' w.heap.size zs := by
  have hs := fun W => isSize_any n W
  rw [hn] at hs
  have hs' := Lib.hid hs
  clear hn hs
  go_enter Try.func71, Try.ntmps71
  go_wp2_with (first
    | (go_at_call 80; refine (hs'.out _).mono ?_; rintro e w' ⟨rfl, rfl⟩)
    | (go_at_call 74; refine (extend_any a len cap 0 zs w hr (by omega)).mono ?_; rintro e w1 ⟨rfl, hb1, hk1⟩))
  go_ret
  exact ⟨rfl, hb1, by simpa using hk1⟩
end Go.Proofs.Ytlihcckgnnnekaa

