/-
  The contract of package octet's Get.
-/
import Derived.Test.YtlihcckgnnnekaaOct4
namespace Go.Proofs.Ytlihcckgnnnekaa
open Go.RowKit
set_option linter.unusedVariables false

set_option maxHeartbeats 400000 in
theorem get_no (a : Option Addr) (len cap : Nat) (at_ n : Int) (w : World) (hl : len ≤ 140737488355328) (h2 : n ≤ 9223372036854775807) (hh : (sizB n && hasB len at_ n) = false) :
    Calls Try.prog 72 #[.slice a len cap, .int .i64 at_, .int .i64 n] w fun e w' => e = .returned (.tuple #[.int .u64 0, .int .i64 1]) ∧ w = w' := by
  have hs := fun W => has_any a len cap at_ n W (by omega) h2
  have ht := fun W => isSize_any n W
  cases hsz : sizB n with
  | false =>
    rw [hsz] at ht
    have hs' := Lib.hid hs
    have ht' := Lib.hid ht
    clear hh hs ht hsz
    go_enter Try.func72, Try.ntmps72
    go_wp2_with (first
      | (go_at_call 80; refine (ht'.out _).mono ?_; rintro e w' ⟨rfl, rfl⟩))
    go_ret2
    exact ⟨rfl, rfl⟩
  | true =>
    rw [hsz] at hh ht
    simp only [Bool.true_and] at hh
    rw [hh] at hs
    have hs' := Lib.hid hs
    have ht' := Lib.hid ht
    clear hh hs ht hsz
    go_enter Try.func72, Try.ntmps72
    go_wp2_with (first
      | (go_at_call 80; refine (ht'.out _).mono ?_; rintro e w' ⟨rfl, rfl⟩)
      | (go_at_call 73; refine (hs'.out _).mono ?_; rintro e w' ⟨rfl, rfl⟩))
    go_ret2
    exact ⟨rfl, rfl⟩

set_option maxHeartbeats 400000 in
theorem get_yes (a : Option Addr) (len cap i n : Nat) (zs : List Int) (w : World) (hr : Reads w a len zs) (hbyt : Byt zs) (hl : len ≤ 140737488355328) (hn : sizB (n : Int) = true) (hi : i + n ≤ len) :
    Calls Try.prog 72 #[.slice a len cap, .int .i64 (i : Int), .int .i64 (n : Int)] w fun e w' =>
      e = .returned (.tuple #[.int .u64 (num ((zs.drop i).take n)), .int .i64 0]) ∧ w = w' := by
  have hn8 : 1 ≤ n ∧ n ≤ 8 := by have := (sizB_iff n).1 hn; omega
  obtain ⟨hn1, hn8⟩ := hn8
  have hs := fun W => has_any a len cap i n W (by omega) (by omega)
  rw [(hasB_iff len i n).2 (by omega)] at hs
  have ht := fun W => isSize_any (n : Int) W
  rw [hn] at ht
  have hs' := Lib.hid hs
  have ht' := Lib.hid ht
  clear hs ht hn
  obtain ⟨b, off, rfl⟩ := hr.some_of (by omega)
  have HR := hr
  obtain ⟨hz, hcell⟩ := hr
  have hcell : ∀ j, j < len → w.cell? ⟨b, off + j, none⟩ = some (.int .u8 (zs[j]?.getD 0)) := by
    rcases hcell with h | ⟨b', off', e, _, h⟩
    · omega
    · cases e; exact h
  have HC := Lib.hid hcell
  have HZ := Lib.hid hz
  clear hcell hz
  go_enter Try.func72, Try.ntmps72
  go_wp2_with (first
      | (go_at_call 80; refine (ht'.out _).mono ?_; rintro e w' ⟨rfl, rfl⟩)
      | (go_at_call 73; refine (hs'.out _).mono ?_; rintro e w' ⟨rfl, rfl⟩))
  go_loop [8, 21] (fun x j => ∃ k : Nat, k ≤ n ∧ j = .int .i64 k ∧ x = .int .u64 (num ((zs.drop i).take k))) (fun _ j => n - (intOf j).toNat)
  case atStart => exact ⟨0, Nat.zero_le _, rfl, rfl⟩
  case round =>
    obtain ⟨k, hk, rfl, rfl⟩ := hrel
    by_cases hlt : k < n
    · have hc := HC.out (i + k) (by omega)
      have hzb := hbyt.getD (i + k)
      have hlo := num_lo _ ((hbyt.drop i).take k)
      have hhi : num ((zs.drop i).take k) < 72057594037927936 := by
        have h1 := num_hi _ ((hbyt.drop i).take k)
        have h2 : (256 : Int) ^ ((zs.drop i).take k).length ≤ 72057594037927936 := pow_256_le (by simp; omega)
        omega
      have HO := Lib.hid (or_256 _ _ hlo hhi hzb.1 hzb.2)
      have HS := Lib.hid (show (zs.drop i).take (k + 1) = (zs.drop i).take k ++ [zs[i + k]?.getD 0] from by
        rw [take_snoc_getD _ _ (by have := HZ.out; simp; omega)]; simp)
      obtain ⟨hz0, hz1⟩ := hzb
      go_wp2
      go_round
      case rel =>
        refine ⟨k + 1, by omega, by go_num, ?_⟩
        rw [HS.out, num_snoc, HO.out, Int.mul_comm]
      case measure => simp [intOf]; omega
    · go_wp2
      go_ret2
      obtain rfl : k = n := by omega
      exact ⟨rfl, rfl⟩
end Go.Proofs.Ytlihcckgnnnekaa
