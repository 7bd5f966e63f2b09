/-
  The walk of CrcBack.
-/
import Derived.Test.YtinkelehdmlmfaaCrc1
import Derived.Test.YtinkelehdmlmfaaFrame
namespace Go.Proofs.Ytinkelehdmlmfaa
open Go.RowKit
set_option linter.unusedVariables false

theorem nat_or_bit (y : Nat) (b : Nat) (hb : b ≤ 1) : 2 * y ||| b = 2 * y + b :=
  nat_join 1 (2 * y) b (by simp) (by omega)

theorem bit_of8 (z : Int) (h0 : 0 ≤ z) (h1 : z < 256) (k : Nat) : bits .and .u8 (z / 2 ^ k) 1 = (((z.toNat.testBit k).toNat : Nat) : Int) := by
  obtain ⟨n, rfl⟩ := Int.eq_ofNat_of_zero_le h0
  have e : ((n : Int) / 2 ^ k) = ((n / 2 ^ k : Nat) : Int) := by simp
  have hle := Nat.div_le_self n (2 ^ k)
  have h2 := u8_and_nat (n / 2 ^ k) 1 (by omega) (by omega)
  rw [nat_mask1] at h2
  rw [e, Int.toNat_natCast, Nat.testBit_eq_decide_div_mod_eq]
  have h : n / 2 ^ k % 2 = 0 ∨ n / 2 ^ k % 2 = 1 := by omega
  rcases h with h | h
  · rw [h] at h2; simp [h]; exact h2
  · rw [h] at h2; simp [h]; exact h2

theorem ust_top (r : Nat) (x : Bool) (hr : r < 4294967296) (ht : ((r : Int) / 2147483648 == 1) = true) :
    bits .or .u32 (bits .xor .u32 (r : Int) 2197175160 * 2 % 4294967296) (bits .xor .u32 ((r : Int) / 2147483648) (((x.toNat : Nat) : Int) % 4294967296)) = ((ust r x : Nat) : Int) := by
  have e1 : (r : Int) / 2147483648 = 1 := by simpa using ht
  have h1 : 2147483648 ≤ r := by omega
  have hy := top_xor h1 hr (b := 2197175160) (by omega) (by omega)
  have e2 : bits .xor .u32 (r : Int) 2197175160 = ((r ^^^ 2197175160 : Nat) : Int) := u32_xor_nat r 2197175160 hr (by omega)
  have e3 : ust r x = 2 * (r ^^^ 2197175160) + (!x).toNat := by unfold ust; rw [if_pos h1]; simp [h1]
  rw [e1, e2, e3]
  generalize r ^^^ 2197175160 = y at *
  have e4 : bits .xor .u32 1 (((x.toNat : Nat) : Int) % 4294967296) = (((!x).toNat : Nat) : Int) := by
    cases x
    · exact u32_xor_nat 1 0 (by omega) (by omega)
    · exact u32_xor_nat 1 1 (by omega) (by omega)
  have e5 : (y : Int) * 2 % 4294967296 = ((2 * y : Nat) : Int) := by omega
  have hb : (!x).toNat ≤ 1 := by cases x <;> simp
  rw [e4, e5, u32_or_nat _ _ (by omega) (by omega), nat_or_bit _ _ hb]

theorem ust_low (r : Nat) (x : Bool) (hr : r < 4294967296) (ht : ((r : Int) / 2147483648 == 1) = false) :
    bits .or .u32 ((r : Int) * 2 % 4294967296) (bits .xor .u32 ((r : Int) / 2147483648) (((x.toNat : Nat) : Int) % 4294967296)) = ((ust r x : Nat) : Int) := by
  have e0 : ¬ (r : Int) / 2147483648 = 1 := by simpa using ht
  have h1 : ¬ 2147483648 ≤ r := by omega
  have e1 : (r : Int) / 2147483648 = 0 := by omega
  have e3 : ust r x = 2 * r + x.toNat := by unfold ust; rw [if_neg h1]; simp [h1]
  have hb : x.toNat ≤ 1 := by cases x <;> simp
  have e4 : bits .xor .u32 0 (((x.toNat : Nat) : Int) % 4294967296) = (((x).toNat : Nat) : Int) := by
    cases x
    · exact u32_xor_nat 0 0 (by omega) (by omega)
    · exact u32_xor_nat 0 1 (by omega) (by omega)
  have e5 : (r : Int) * 2 % 4294967296 = ((2 * r : Nat) : Int) := by omega
  rw [e1, e3, e4, e5, u32_or_nat _ _ (by omega) (by omega), nat_or_bit _ _ hb]

set_option maxHeartbeats 400000 in
theorem behind_any (s : Nat) (a : Option Addr) (n c : Nat) (zs : List Int) (w : World) (hs : s < 4294967296) (hr : Reads w a n zs) (hz : Byt zs) (hn : n ≤ 1048576) :
    Calls Try.prog 15 #[.int .u32 (s : Int), .slice a n c] w fun e w' =>
      e = .returned (.int .u32 ((urun (bitAt zs) (8 * n) (s ^^^ 4294967295) (8 * n) ^^^ 4294967295 : Nat) : Int)) ∧ w = w' := by
  have h0 : s ^^^ 4294967295 < 4294967296 := Nat.xor_lt_two_pow (n := 32) hs (by omega)
  have HN := Lib.hid (not_u32 s hs)
  have HR := Lib.hid hr
  have HZ := Lib.hid hz
  clear hr hz
  have hsg := u32_plain
  go_enter Try.func15, Try.ntmps15
  go_wp2
  go_loop [5, 6] (fun r i => ∃ k : Nat, k ≤ 8 * n ∧ i = .int .i64 ((8 * n : Nat) - 1 - (k : Int)) ∧ r = .int .u32 ((urun (bitAt zs) (8 * n) (s ^^^ 4294967295) k : Nat) : Int)) (fun _ i => (intOf i + 1).toNat)
  case atStart => exact ⟨0, Nat.zero_le _, congrArg (Value.int .i64) (by omega), int_u32 HN.out⟩
  case round =>
    obtain ⟨k, hk, rfl, rfl⟩ := hrel
    by_cases hlt : k < 8 * n
    · obtain ⟨b, off, rfl, hc⟩ := HR.out.at_ ((8 * n - 1 - k) / 8) (by omega)
      obtain ⟨z0, z1⟩ := HZ.out.getD ((8 * n - 1 - k) / 8)
      have HL := Lib.hid (urun_lt (f := bitAt zs) (n := 8 * n) h0 k)
      have HB := Lib.hid (bit_of8 _ z0 z1 ((8 * n - 1 - k) % 8))
      go_wp2
      · rename_i _ ht
        refine ⟨⟨k + 1, by omega, congrArg (Value.int .i64) (by omega), int_u32 ?_⟩, by simp [intOf]; omega⟩
        rw [HB.out]
        exact ust_top _ _ HL.out ht
      · rename_i _ ht
        refine ⟨⟨k + 1, by omega, congrArg (Value.int .i64) (by omega), int_u32 ?_⟩, by simp [intOf]; omega⟩
        rw [HB.out]
        exact ust_low _ _ HL.out ht
    · obtain rfl : k = 8 * n := by omega
      have HE := Lib.hid (not_u32 _ (urun_lt (f := bitAt zs) (n := 8 * n) h0 (8 * n)))
      go_wp2
      go_ret
      exact ⟨ret_int HE.out, rfl⟩

theorem u32_ext (s : Nat) (hs : s < 4294967296) (zs : List Int) : urun (bitAt zs) (8 * zs.length) (ext s zs ^^^ 4294967295) (8 * zs.length) ^^^ 4294967295 = s := by
  unfold ext
  rw [xor_back, urun_run (Nat.xor_lt_two_pow (n := 32) hs (by omega)), xor_back]
theorem ext_u32 (s : Nat) (hs : s < 4294967296) (zs : List Int) : ext (urun (bitAt zs) (8 * zs.length) (s ^^^ 4294967295) (8 * zs.length) ^^^ 4294967295) zs = s := by
  unfold ext
  rw [xor_back, run_urun (Nat.xor_lt_two_pow (n := 32) hs (by omega)), xor_back]

theorem crcBack_long (WK : WorksOk) (s : Int) (a : Option Addr) (len cap : Nat) (w : World) (h : 4096 < len) (hm : len ≤ 9223372036854775807) :
    Calls Try.prog 7 #[.int .u32 s, .slice a len cap] w fun e w' => e = .returned (.bool true) ∧ Below w.heap.size w w' := by
  go_enter Try.func7, Try.ntmps7
  go_wp2_with (go_at_call 9; refine (WK _).mono ?_; rintro e w' ⟨rfl, hb⟩)
  go_ret
  exact ⟨rfl, hb⟩

set_option maxHeartbeats 1600000 in
set_option maxRecDepth 100000 in
theorem crcBack_of (WK : WorksOk) (a0 : Int) (a1 : Option Addr) (len1 cap1 : Nat) (z1 : List Int) (w : World) (w0 : (Lit.int .u32 a0).wf = true) (w1 : IsRow .u8 w a1 len1 cap1 z1) :
    Calls Try.prog 7 #[.int .u32 a0, .slice a1 len1 cap1] w fun e w' => e = .returned (.bool true) ∧ Below w.heap.size w w' := by
  obtain ⟨hr, hbyt, hcap, hmax⟩ := w1.reads
  obtain ⟨x0, x1⟩ := wf_u32_in w0
  unfold maxLen at hmax
  clear w0 w1
  by_cases hlong : 4096 < len1
  · exact crcBack_long WK a0 a1 len1 cap1 w hlong (by omega)
  have hshort : (len1 : Int) ≤ 4096 := by omega
  generalize z1.take len1 = zs at hr hbyt
  obtain ⟨s, rfl⟩ := Int.eq_ofNat_of_zero_le x0
  have hs : s < 4294967296 := by omega
  have HR := Lib.hid hr
  have HB := Lib.hid hbyt
  have HL := Lib.hid hr.1
  clear hr hbyt
  have HWK := Lib.hid WK
  clear WK
  go_enter Try.func7, Try.ntmps7
  go_wp2_with fail
  refine (behind_any s a1 len1 cap1 zs w hs HR.out HB.out (by omega)).mono ?_
  rintro e w' ⟨rfl, rfl⟩
  have e1 := ext_u32 s hs zs
  have e2 := u32_ext s hs zs
  rw [HL.out] at e1 e2
  have h1 : urun (bitAt zs) (8 * len1) (s ^^^ 4294967295) (8 * len1) ^^^ 4294967295 < 4294967296 := Nat.xor_lt_two_pow (n := 32) (urun_lt (Nat.xor_lt_two_pow (n := 32) hs (by omega)) _) (by omega)
  generalize urun (bitAt zs) (8 * len1) (s ^^^ 4294967295) (8 * len1) ^^^ 4294967295 = q at *
  have E1 := Lib.hid e1
  have E2 := Lib.hid e2
  clear e1 e2
  go_wp2_with fail
  refine (extend_crc q a1 len1 cap1 zs w h1 HR.out HB.out (by omega)).mono ?_
  rintro e w' ⟨rfl, rfl⟩
  rw [E1.out]
  go_wp2_with fail
  refine (extend_crc s a1 len1 cap1 zs w hs HR.out HB.out (by omega)).mono ?_
  rintro e w' ⟨rfl, rfl⟩
  go_wp2_with fail
  refine (behind_any (ext s zs) a1 len1 cap1 zs w (ext_lt zs hs) HR.out HB.out (by omega)).mono ?_
  rintro e w' ⟨rfl, rfl⟩
  rw [E2.out]
  go_wp2_with (go_at_call 9; refine (HWK.out _).mono ?_; rintro e w' ⟨rfl, hb⟩)
  go_ret
  exact ⟨rfl, hb⟩
end Go.Proofs.Ytinkelehdmlmfaa
