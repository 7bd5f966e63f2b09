/-
  Contracts of the reference package 01: Size, Cut, Get.
-/
import Derived.Test.YtlihcckgnnnekaaRef00b
import Derived.Test.YtlihcckgnnnekaaOct5
namespace Go.Proofs.Ytlihcckgnnnekaa
open Go.RowKit
set_option linter.unusedVariables false

theorem sizeR_any (n : Int) (w : World) : Calls Try.prog 77 #[.int .i64 n] w fun e w' => e = .returned (.bool (sizB n)) ∧ w = w' := by
  by_cases h1 : n = 1
  · subst h1; go_enter Try.func77, Try.ntmps77; go_wp2; go_ret; exact ⟨rfl, rfl⟩
  by_cases h2 : n = 2
  · subst h2; go_enter Try.func77, Try.ntmps77; go_wp2; go_ret; exact ⟨rfl, rfl⟩
  by_cases h4 : n = 4
  · subst h4; go_enter Try.func77, Try.ntmps77; go_wp2; go_ret; exact ⟨rfl, rfl⟩
  have e1 : (n == 1) = false := by simpa using h1
  have e2 : (n == 2) = false := by simpa using h2
  have e4 : (n == 4) = false := by simpa using h4
  go_enter Try.func77, Try.ntmps77; go_wp2; go_ret; exact ⟨by simp [sizB, e1, e2, e4], rfl⟩

set_option maxHeartbeats 400000 in
theorem cutR_no (a : Option Addr) (len cap : Nat) (at_ n : Int) (w : World) (hl : len ≤ 140737488355328) (h2 : n ≤ 9223372036854775807) (h3 : at_ ≤ 9223372036854775807) (hh : hasB len at_ n = false) :
    Calls Try.prog 62 #[.slice a len cap, .int .i64 at_, .int .i64 n] w fun e w' => e = .returned (.tuple #[.slice none 0 0, .bool false]) ∧ w = w' := by
  have hc : at_ < 0 ∨ n < 0 ∨ (len : Int) - n < at_ := by
    have := mt (hasB_iff len at_ n).2 (by simp [hh]); omega
  clear hh
  by_cases g1 : at_ < 0
  · go_enter Try.func62, Try.ntmps62
    go_wp2
    go_ret2
    exact ⟨rfl, rfl⟩
  by_cases g2 : n < 0
  · go_enter Try.func62, Try.ntmps62
    go_wp2
    go_ret2
    exact ⟨rfl, rfl⟩
  have g3 : (len : Int) - n < at_ := by omega
  clear hc
  by_cases g4 : (len : Int) < at_
  · go_enter Try.func62, Try.ntmps62
    go_wp2
    go_ret2
    exact ⟨rfl, rfl⟩
  have g5 : (len : Int) - at_ < n := by omega
  go_enter Try.func62, Try.ntmps62
  go_wp2
  go_ret2
  exact ⟨rfl, rfl⟩

set_option maxHeartbeats 400000 in
theorem cutR_yes (a : Option Addr) (len cap i m : Nat) (zs : List Int) (w : World) (hr : Reads w a len zs) (hcap : len ≤ cap) (hl : len ≤ 140737488355328) (hi : i + m ≤ len) :
    Calls Try.prog 62 #[.slice a len cap, .int .i64 (i : Int), .int .i64 (m : Int)] w fun e w' =>
      ∃ a', e = .returned (.tuple #[.slice a' m m, .bool true]) ∧ Below w.heap.size w w' ∧ Row8 w.heap.size w' a' m m ((zs.drop i).take m) := by
  have hz := hr.1
  have g1 : (i : Int) ≤ (len : Int) := by omega
  have g2 : (m : Int) ≤ (len : Int) - (i : Int) := by omega
  by_cases hm : m = 0
  · subst hm
    cases a with
    | none =>
      have h0 := hr.2
      have h00 : len = 0 := by
        rcases h0 with h | ⟨_, _, h, _⟩
        · exact h
        · cases h
      obtain rfl : i = 0 := by omega
      subst h00
      clear h0 hi g1 g2
      go_enter Try.func62, Try.ntmps62
      go_wp2_with fail
      refine (copyBytes_any _ 0 _ [] w (Reads.zero _ _) (by omega)).mono ?_
      rintro e w1 ⟨a', rfl, hb1, hk1⟩
      go_wp2
      go_ret2
      exact ⟨_, rfl, hb1, by simpa using hk1⟩
    | some ad =>
      obtain ⟨bk, off, spot⟩ := ad
      have H := Lib.hid hz
      clear hz
      go_enter Try.func62, Try.ntmps62
      go_wp2_with fail
      all_goals
        refine (copyBytes_any _ 0 _ [] w (Reads.zero _ _) (by omega)).mono ?_
        rintro e w1 ⟨a', rfl, hb1, hk1⟩
        go_wp2
        go_ret2
        exact ⟨_, rfl, hb1, by simpa using hk1⟩
  · obtain ⟨bk, off, rfl⟩ := hr.some_of (by omega)
    have hp := hr.part i m hi
    have hic : i < cap := by omega
    have H := Lib.hid hz
    clear hz
    go_enter Try.func62, Try.ntmps62
    go_wp2_with fail
    refine (copyBytes_any _ m _ _ w hp (by omega)).mono ?_
    rintro e w1 ⟨a', rfl, hb1, hk1⟩
    go_wp2
    go_ret2
    exact ⟨_, rfl, hb1, hk1⟩

set_option maxHeartbeats 400000 in
theorem getR_no (a : Option Addr) (len cap : Nat) (at_ n : Int) (zs : List Int) (w : World) (hr : Reads w a len zs) (hcap : len ≤ cap) (hl : len ≤ 140737488355328) (h2 : n ≤ 9223372036854775807) (h3 : at_ ≤ 9223372036854775807) (hh : (sizB n && hasB len at_ n) = false) :
    Calls Try.prog 76 #[.slice a len cap, .int .i64 at_, .int .i64 n] w fun e w' => e = .returned (.tuple #[.int .u64 0, .int .i64 1]) ∧ Below w.heap.size w w' := by
  have ht := fun W => sizeR_any n W
  by_cases hb : hasB len at_ n = true
  · have hsz : sizB n = false := by simpa [hb] using hh
    rw [hsz] at ht
    have ht' := Lib.hid ht
    clear ht hh hsz
    have := (hasB_iff len at_ n).1 hb
    obtain ⟨i, rfl⟩ := Int.eq_ofNat_of_zero_le this.1
    obtain ⟨m, rfl⟩ := Int.eq_ofNat_of_zero_le this.2.1
    have hi : i + m ≤ len := by omega
    clear hb this
    go_enter Try.func76, Try.ntmps76
    go_wp2_with fail
    refine (cutR_yes a len cap i m zs w hr hcap hl hi).mono ?_
    rintro e w1 ⟨a', rfl, hb1, hk1⟩
    go_wp2_with (go_at_call 77; refine (ht'.out _).mono ?_; rintro e w' ⟨rfl, rfl⟩)
    go_ret2
    exact ⟨rfl, hb1⟩
  · have hbf : hasB len at_ n = false := by simpa using hb
    have hc := Lib.hid (cutR_no a len cap at_ n w hl h2 h3 hbf)
    clear hh hb hbf
    cases hsz : sizB n
    all_goals
      rw [hsz] at ht
      have ht' := Lib.hid ht
      clear ht hsz
      go_enter Try.func76, Try.ntmps76
      go_wp2_with (first
        | (go_at_call 62; refine hc.out.mono ?_; rintro e w' ⟨rfl, rfl⟩)
        | (go_at_call 77; refine (ht'.out _).mono ?_; rintro e w' ⟨rfl, rfl⟩))
      go_ret2
      exact ⟨rfl, Below.refl _ _⟩

set_option maxHeartbeats 800000 in
theorem getR_yes (a : Option Addr) (len cap i n : Nat) (zs : List Int) (w : World) (hr : Reads w a len zs) (hbyt : Byt zs) (hcap : len ≤ cap) (hl : len ≤ 140737488355328) (hn : sizB (n : Int) = true) (hi : i + n ≤ len) :
    Calls Try.prog 76 #[.slice a len cap, .int .i64 (i : Int), .int .i64 (n : Int)] w fun e w' =>
      e = .returned (.tuple #[.int .u64 (num ((zs.drop i).take n)), .int .i64 0]) ∧ Below w.heap.size w w' := by
  have hn8 : 1 ≤ n ∧ n ≤ 8 := by have := (sizB_iff n).1 hn; omega
  obtain ⟨hn1, hn8⟩ := hn8
  have ht := fun W => sizeR_any (n : Int) W
  rw [hn] at ht
  have ht' := Lib.hid ht
  have HL := Lib.hid hr.1
  clear ht hn
  go_enter Try.func76, Try.ntmps76
  go_wp2_with fail
  refine (cutR_yes a len cap i n zs w hr hcap hl hi).mono ?_
  rintro e w1 ⟨a', rfl, hb1, hk1⟩
  have hr1 := hk1.reads
  obtain ⟨b, off, rfl⟩ := hr1.some_of (by omega)
  have HR := Lib.hid hr1
  have HX := Lib.hid (hbyt.drop i |>.take n)
  have HT := Lib.hid (show ((zs.drop i).take n).length = n from hr1.1)
  clear hr1 hk1
  go_wp2_with (go_at_call 77; refine (ht'.out _).mono ?_; rintro e w' ⟨rfl, rfl⟩)
  generalize hxs : (zs.drop i).take n = xs at *
  have HXS := Lib.hid hxs
  clear hxs
  go_loop [10, 11] (fun x j => ∃ k : Nat, k ≤ n ∧ j = .int .i64 k ∧ x = .int .u64 (num (xs.take k))) (fun _ j => n - (intOf j).toNat)
  case atStart => exact ⟨0, Nat.zero_le _, rfl, rfl⟩
  case round =>
    obtain ⟨k, hk, rfl, rfl⟩ := hrel
    by_cases hlt : k < n
    · have hc : w1.cell? ⟨b, off + k, none⟩ = some (.int .u8 (xs[k]?.getD 0)) := by
        rcases HR.out.2 with h | ⟨b', off', e, _, h⟩
        · omega
        · cases e; exact h k hlt
      obtain ⟨hz0, hz1⟩ := HX.out.getD k
      have hlo := num_lo _ (HX.out.take k)
      have hhi : num (xs.take k) < 72057594037927936 := by
        have h1 := num_hi _ (HX.out.take k)
        have h2 : (256 : Int) ^ (xs.take k).length ≤ 72057594037927936 := pow_256_le (by simp; omega)
        omega
      have HS := Lib.hid (take_snoc_getD xs k (by rw [HT.out]; exact hlt))
      go_wp2
      go_round
      case rel =>
        refine ⟨k + 1, by omega, by go_num, ?_⟩
        rw [HS.out, num_snoc]
      case measure => simp [intOf]; omega
    · go_wp2
      go_ret2
      obtain rfl : k = n := by omega
      refine ⟨?_, hb1⟩
      rw [show xs.take k = xs from List.take_of_length_le (Nat.le_of_eq HT.out), HXS.out]
      rfl
end Go.Proofs.Ytlihcckgnnnekaa
