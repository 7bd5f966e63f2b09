/-
  Contracts of package crc: step, Extend, Sum; of the reference's Extend and Sum.
-/
import Derived.Test.YtinkelehdmlmfaaChecked
import Derived.Test.YtinkelehdmlmfaaBase
import Derived.Test.YtinkelehdmlmfaaCrcMath
import Derived.Laws.BitsAllLaws
import Derived.Handy
import Derived.BigQuiet
import Derived.Deep.QuietTactic
import Derived.Outline
namespace Go.Proofs.Ytinkelehdmlmfaa
open Go.RowKit
set_option linter.unusedVariables false

theorem and_one (r : Nat) (hr : r < 4294967296) : bits .and .u32 (r : Int) 1 = ((r % 2 : Nat) : Int) := by
  have := u32_and_nat r 1 hr (by omega)
  rw [nat_mask1] at this
  exact this
theorem and_one_ne (r : Nat) (x : Bool) (hr : r < 4294967296) : (bits .and .u32 (r : Int) 1 != ((x.toNat : Nat) : Int)) = ((r % 2 == 1) != x) := by
  rw [and_one r hr]
  have h : r % 2 = 0 ∨ r % 2 = 1 := by omega
  rcases h with h | h <;> cases x <;> simp [h]
theorem ne_and_one (r : Nat) (x : Bool) (hr : r < 4294967296) : (((x.toNat : Nat) : Int) != bits .and .u32 (r : Int) 1) = ((r % 2 == 1) != x) := by
  rw [and_one r hr]
  have h : r % 2 = 0 ∨ r % 2 = 1 := by omega
  rcases h with h | h <;> cases x <;> simp [h]
theorem xor_div (r : Nat) (hr : r < 4294967296) : bits .xor .u32 ((r : Int) / 2) 2197175160 = ((r / 2 ^^^ 2197175160 : Nat) : Int) := by
  have h := u32_xor_nat (r / 2) 2197175160 (by omega) (by omega)
  rw [← h]; rfl

theorem ret_int {k : IntKind} {a b : Int} (h : a = b) : Ending.returned (.int k a) = .returned (.int k b) := by rw [h]

theorem step_any (r : Nat) (x : Bool) (w : World) (hr : r < 4294967296) :
    Calls Try.prog 19 #[.int .u32 (r : Int), .int .u32 ((x.toNat : Nat) : Int)] w fun e w' => e = .returned (.int .u32 ((stp r x : Nat) : Int)) ∧ w = w' := by
  have ht := and_one_ne r x hr
  by_cases hc : ((r % 2 == 1) != x) = true
  · rw [hc] at ht
    have e : bits .xor .u32 ((r : Int) / 2) 2197175160 = ((stp r x : Nat) : Int) := by rw [xor_div r hr]; unfold stp; rw [if_pos hc]
    have E := Lib.hid e
    clear e hc
    go_enter Try.func19, Try.ntmps19
    go_wp2
    go_ret
    exact ⟨ret_int E.out, rfl⟩
  · have hf : ((r % 2 == 1) != x) = false := by simpa using hc
    rw [hf] at ht
    have e : (r : Int) / 2 = ((stp r x : Nat) : Int) := by unfold stp; rw [if_neg hc, Nat.xor_zero]; rfl
    have E := Lib.hid e
    clear e hc hf
    go_enter Try.func19, Try.ntmps19
    go_wp2
    go_ret
    exact ⟨ret_int E.out, rfl⟩

theorem step_of {v b : Int} {r : Nat} {x : Bool} (w : World) (hv : v = (r : Int)) (hb : b = ((x.toNat : Nat) : Int)) (hr : r < 4294967296) :
    Calls Try.prog 19 #[.int .u32 v, .int .u32 b] w fun e w' => e = .returned (.int .u32 ((stp r x : Nat) : Int)) ∧ w = w' := by
  subst hv hb
  exact step_any r x w hr

/-- A bit of a byte, as the program picks it. -/
theorem bit_of (z : Int) (h0 : 0 ≤ z) (h1 : z < 256) (k : Nat) : bits .and .u32 (z / 2 ^ k) 1 = (((z.toNat.testBit k).toNat : Nat) : Int) := by
  obtain ⟨n, rfl⟩ := Int.eq_ofNat_of_zero_le h0
  have e : ((n : Int) / 2 ^ k) = ((n / 2 ^ k : Nat) : Int) := by simp
  have hle := Nat.div_le_self n (2 ^ k)
  rw [e, and_one _ (by omega), Int.toNat_natCast, Nat.testBit_eq_decide_div_mod_eq]
  have h : n / 2 ^ k % 2 = 0 ∨ n / 2 ^ k % 2 = 1 := by omega
  rcases h with h | h <;> simp [h]

theorem shr_byt (z : Int) (h0 : 0 ≤ z) (h1 : z < 256) (k : Nat) : 0 ≤ z / 2 ^ k ∧ z / 2 ^ k ≤ 255 := by
  obtain ⟨n, rfl⟩ := Int.eq_ofNat_of_zero_le h0
  have e : ((n : Int) / 2 ^ k) = ((n / 2 ^ k : Nat) : Int) := by simp
  have hle := Nat.div_le_self n (2 ^ k)
  rw [e]
  generalize n / 2 ^ k = m at *
  omega
theorem not_u32 (s : Nat) (hs : s < 4294967296) : bits .xor .u32 IntKind.u32.max (s : Int) = ((s ^^^ 4294967295 : Nat) : Int) := by
  rw [Nat.xor_comm]
  exact u32_xor_nat 4294967295 s (by omega) hs
theorem int_u32 {a b : Int} (h : a = b) : Value.int .u32 a = .int .u32 b := by rw [h]
theorem u32_plain : IntKind.u32.signed = false := rfl

/-- A cell of what a slice reads as. -/
theorem Reads.at_ {w : World} {a : Option Addr} {n : Nat} {zs : List Int} (h : Reads w a n zs) (k : Nat) (hk : k < n) : ∃ b off, a = some ⟨b, off, none⟩ ∧ w.cell? ⟨b, off + k, none⟩ = some (.int .u8 (zs[k]?.getD 0)) := by
  rcases h.2 with h2 | ⟨b, off, e, _, h2⟩
  · omega
  · exact ⟨b, off, e, h2 k hk⟩

theorem bitAt_mk (zs : List Int) (k i : Nat) (hi : i < 8) : bitAt zs (8 * k + i) = (zs[k]?.getD 0).toNat.testBit i := by
  unfold bitAt
  rw [show (8 * k + i) / 8 = k from by omega, show (8 * k + i) % 8 = i from by omega]

set_option maxHeartbeats 400000 in
theorem extend_crc (s : Nat) (a : Option Addr) (n c : Nat) (zs : List Int) (w : World) (hs : s < 4294967296) (hr : Reads w a n zs) (hz : Byt zs) (hn : n ≤ 1125899906842624) :
    Calls Try.prog 11 #[.int .u32 (s : Int), .slice a n c] w fun e w' => e = .returned (.int .u32 ((ext s zs : Nat) : Int)) ∧ w = w' := by
  have h0 : s ^^^ 4294967295 < 4294967296 := Nat.xor_lt_two_pow (n := 32) hs (by omega)
  have HN := Lib.hid (not_u32 s hs)
  have HR := Lib.hid hr
  have HZ := Lib.hid hz
  clear hr hz
  have hsg := u32_plain
  go_enter Try.func11, Try.ntmps11
  go_wp2
  go_loop [5, 13] (fun r i => ∃ k : Nat, k ≤ n ∧ i = .int .i64 k ∧ r = .int .u32 ((run (bitAt zs) (s ^^^ 4294967295) (8 * k) : Nat) : Int)) (fun _ i => n - (intOf i).toNat)
  case atStart => exact ⟨0, Nat.zero_le _, rfl, int_u32 HN.out⟩
  case round =>
    obtain ⟨k, hk, rfl, rfl⟩ := hrel
    by_cases hlt : k < n
    · obtain ⟨b, off, rfl, hc⟩ := HR.out.at_ k hlt
      obtain ⟨z0, z1⟩ := HZ.out.getD k
      have HB := Lib.hid (fun i hi => bitAt_mk zs k i hi)
      generalize hz : zs[k]?.getD 0 = z at *
      have HZ2 := Lib.hid hz
      clear hz
      go_wp2
      go_loop [5, 17] (fun r i => ∃ j : Nat, j ≤ 8 ∧ i = .int .i64 j ∧ r = .int .u32 ((run (bitAt zs) (s ^^^ 4294967295) (8 * k + j) : Nat) : Int)) (fun _ i => 8 - (intOf i).toNat)
      case atStart => exact ⟨0, Nat.zero_le _, rfl, rfl⟩
      case round =>
        obtain ⟨j, hj, rfl, rfl⟩ := hrel
        by_cases hjl : j < 8
        · obtain ⟨q0, q1⟩ := shr_byt z z0 z1 j
          go_wp2_with fail
          refine (step_of (x := bitAt zs (8 * k + j)) _ rfl ?_ (run_lt h0 _)).mono ?_
          · rw [HB.out j hjl]
            exact bit_of z z0 z1 j
          rintro e w' ⟨rfl, rfl⟩
          go_wp2
          go_round
          case rel => exact ⟨j + 1, by omega, by go_num, rfl⟩
          case measure => simp [intOf]; omega
        · obtain rfl : j = 8 := by omega
          go_wp2
          go_round
          case rel => exact ⟨k + 1, by omega, by go_num, rfl⟩
          case measure => simp [intOf]; omega
    · obtain rfl : k = n := by omega
      have HE := Lib.hid (not_u32 _ (run_lt (f := bitAt zs) h0 (8 * k)))
      go_wp2
      go_ret
      refine ⟨ret_int ?_, rfl⟩
      rw [HE.out]
      unfold ext
      rw [HR.out.1]

theorem sum_crc (a : Option Addr) (n c : Nat) (zs : List Int) (w : World) (hr : Reads w a n zs) (hz : Byt zs) (hn : n ≤ 1125899906842624) :
    Calls Try.prog 13 #[.slice a n c] w fun e w' => e = .returned (.int .u32 ((ext 0 zs : Nat) : Int)) ∧ w = w' := by
  have HR := Lib.hid hr
  have HZ := Lib.hid hz
  clear hr hz
  go_enter Try.func13, Try.ntmps13
  go_wp2_with fail
  refine (extend_crc 0 a n c zs w (by omega) HR.out HZ.out hn).mono ?_
  rintro e w' ⟨rfl, rfl⟩
  go_wp2
  go_ret
  exact ⟨rfl, rfl⟩

theorem not_u32' (s : Nat) (hs : s < 4294967296) : bits .xor .u32 (s : Int) 4294967295 = ((s ^^^ 4294967295 : Nat) : Int) := u32_xor_nat s 4294967295 hs (by omega)

set_option maxHeartbeats 400000 in
theorem extend_ref (s : Nat) (a : Option Addr) (n c : Nat) (zs : List Int) (w : World) (hs : s < 4294967296) (hr : Reads w a n zs) (hz : Byt zs) (hn : n ≤ 1125899906842624) :
    Calls Try.prog 12 #[.int .u32 (s : Int), .slice a n c] w fun e w' => e = .returned (.int .u32 ((ext s zs : Nat) : Int)) ∧ w = w' := by
  have h0 : s ^^^ 4294967295 < 4294967296 := Nat.xor_lt_two_pow (n := 32) hs (by omega)
  have HN := Lib.hid (not_u32' s hs)
  have HR := Lib.hid hr
  have HZ := Lib.hid hz
  clear hr hz
  go_enter Try.func12, Try.ntmps12
  go_wp2
  go_loop [5, 6] (fun r i => ∃ k : Nat, k ≤ n ∧ i = .int .i64 k ∧ r = .int .u32 ((run (bitAt zs) (s ^^^ 4294967295) (8 * k) : Nat) : Int)) (fun _ i => n - (intOf i).toNat)
  case atStart => exact ⟨0, Nat.zero_le _, rfl, int_u32 HN.out⟩
  case round =>
    obtain ⟨k, hk, rfl, rfl⟩ := hrel
    by_cases hlt : k < n
    · obtain ⟨b, off, rfl, hc⟩ := HR.out.at_ k hlt
      obtain ⟨z0, z1⟩ := HZ.out.getD k
      have HB := Lib.hid (fun i hi => bitAt_mk zs k i hi)
      generalize hz : zs[k]?.getD 0 = z at *
      have HZ2 := Lib.hid hz
      clear hz
      go_wp2
      go_loop [5, 7] (fun r i => ∃ j : Nat, j ≤ 8 ∧ i = .int .i64 j ∧ r = .int .u32 ((run (bitAt zs) (s ^^^ 4294967295) (8 * k + j) : Nat) : Int)) (fun _ i => 8 - (intOf i).toNat)
      case atStart => exact ⟨0, Nat.zero_le _, rfl, rfl⟩
      case round =>
        obtain ⟨j, hj, rfl, rfl⟩ := hrel
        by_cases hjl : j < 8
        · have hb : bits .and .u32 (z / 2 ^ j) 1 = (((bitAt zs (8 * k + j)).toNat : Nat) : Int) := by rw [HB.out j hjl]; exact bit_of z z0 z1 j
          have hrl := run_lt (f := bitAt zs) h0 (8 * k + j)
          have es : run (bitAt zs) (s ^^^ 4294967295) (8 * k + (j + 1)) = stp (run (bitAt zs) (s ^^^ 4294967295) (8 * k + j)) (bitAt zs (8 * k + j)) := rfl
          have ES := Lib.hid es
          clear es
          generalize bitAt zs (8 * k + j) = x at *
          generalize run (bitAt zs) (s ^^^ 4294967295) (8 * k + j) = r at *
          obtain ⟨q0, q1⟩ := shr_byt z z0 z1 j
          have ht := ne_and_one r x hrl
          by_cases hcn : ((r % 2 == 1) != x) = true
          · rw [hcn] at ht
            have hx : bits .xor .u32 ((r : Int) / 2) 2197175160 = ((stp r x : Nat) : Int) := by rw [xor_div r hrl]; unfold stp; rw [if_pos hcn]
            have HX := Lib.hid hx
            clear hx hcn
            go_wp2
            go_round
            case rel => exact ⟨j + 1, by omega, by go_num, int_u32 (by rw [HX.out, ES.out])⟩
            case measure => simp [intOf]; omega
          · have hf : ((r % 2 == 1) != x) = false := by simpa using hcn
            rw [hf] at ht
            have hx : (r : Int) / 2 = ((stp r x : Nat) : Int) := by unfold stp; rw [if_neg hcn, Nat.xor_zero]; rfl
            have HX := Lib.hid hx
            clear hx hcn hf
            go_wp2
            go_round
            case rel => exact ⟨j + 1, by omega, by go_num, int_u32 (by rw [HX.out, ES.out])⟩
            case measure => simp [intOf]; omega
        · obtain rfl : j = 8 := by omega
          go_wp2
          go_round
          case rel => exact ⟨k + 1, by omega, by go_num, rfl⟩
          case measure => simp [intOf]; omega
    · obtain rfl : k = n := by omega
      have HE := Lib.hid (not_u32' _ (run_lt (f := bitAt zs) h0 (8 * k)))
      go_wp2
      go_ret
      refine ⟨ret_int ?_, rfl⟩
      rw [HE.out]
      unfold ext
      rw [HR.out.1]

theorem sum_ref (a : Option Addr) (n c : Nat) (zs : List Int) (w : World) (hr : Reads w a n zs) (hz : Byt zs) (hn : n ≤ 1125899906842624) :
    Calls Try.prog 18 #[.slice a n c] w fun e w' => e = .returned (.int .u32 ((ext 0 zs : Nat) : Int)) ∧ w = w' := by
  have HR := Lib.hid hr
  have HZ := Lib.hid hz
  clear hr hz
  go_enter Try.func18, Try.ntmps18
  go_wp2_with fail
  refine (extend_ref 0 a n c zs w (by omega) HR.out HZ.out hn).mono ?_
  rintro e w' ⟨rfl, rfl⟩
  go_wp2
  go_ret
  exact ⟨rfl, rfl⟩

/-- The anchor's contract: works() is true, and turns nothing that was there. -/
def WorksOk : Prop := ∀ w : World, Calls Try.prog 9 #[] w fun e w' => e = .returned (.bool true) ∧ Below w.heap.size w w'
end Go.Proofs.Ytinkelehdmlmfaa
