/-
  The walk of CrcDivides.
-/
import Derived.Test.YtinkelehdmlmfaaLCrcBack
import Derived.Test.YtinkelehdmlmfaaRef00b
import Derived.RegionTactic
import Derived.BigRegion
import Derived.Deep.RegionHeld
namespace Go.Proofs.Ytinkelehdmlmfaa
open Go.RowKit
set_option linter.unusedVariables false

/-- A bit as a number. -/
def bt (x : Bool) : Int := ((x.toNat : Nat) : Int)
theorem bt_in (x : Bool) : 0 ≤ bt x ∧ bt x < 256 ∧ bt x ≤ 1 := by cases x <;> decide

/-- The message's bit, none behind its end. -/
def msg (f : Nat → Bool) (n p : Nat) : Bool := if p < n then f p else false

/-- What stands at place p (p not below i) behind i steps of the division. -/
def rest (f : Nat → Bool) (n i p : Nat) : Bool := msg f n p != (run f 4294967295 i).testBit (p - i)

/-- The same, in the midst of step i: the places up to i + k have had the divisor's bits, where it is wanted. -/
def part (f : Nat → Bool) (n i k p : Nat) : Bool := if i < p ∧ p < i + k then rest f n i p != (4812730177 : Nat).testBit (32 - (p - i)) else rest f n i p

theorem div_bits : ∀ j, j < 32 → (2197175160 : Nat).testBit j = (4812730177 : Nat).testBit (31 - j) := by decide +kernel

theorem rest_step (f : Nat → Bool) (n i p : Nat) (hi : i < n) (hp : i < p) : rest f n (i + 1) p = if rest f n i i = true then part f n i 33 p else rest f n i p := by
  have hr : run f 4294967295 (i + 1) = stp (run f 4294967295 i) (f i) := rfl
  have h0 : rest f n i i = (f i != (run f 4294967295 i).testBit 0) := by unfold rest msg; rw [if_pos hi, Nat.sub_self]
  have hlt : run f 4294967295 i < 4294967296 := run_lt (by omega) i
  have hs : (stp (run f 4294967295 i) (f i)).testBit (p - (i + 1)) = if rest f n i i = true then ((run f 4294967295 i).testBit (p - i) != (2197175160 : Nat).testBit (p - (i + 1))) else (run f 4294967295 i).testBit (p - i) := by
    have e1 : (run f 4294967295 i / 2).testBit (p - (i + 1)) = (run f 4294967295 i).testBit (p - i) := by
      have := Nat.testBit_div_two_pow (n := 1) (run f 4294967295 i) (p - (i + 1))
      rw [show p - (i + 1) + 1 = p - i from by omega] at this
      simpa using this
    have e2 : ((run f 4294967295 i % 2 == 1) != f i) = rest f n i i := by
      rw [h0, Nat.testBit_zero]
      by_cases h : run f 4294967295 i % 2 = 1 <;> cases f i <;> simp [h]
    unfold stp
    rw [e2]
    by_cases h : rest f n i i = true
    · rw [if_pos h, if_pos h, Nat.testBit_xor, e1]
    · rw [if_neg h, if_neg h, Nat.xor_zero, e1]
  have hx : rest f n (i + 1) p = (msg f n p != (stp (run f 4294967295 i) (f i)).testBit (p - (i + 1))) := by unfold rest; rw [hr]
  rw [hx, hs]
  by_cases h : rest f n i i = true
  · rw [if_pos h, if_pos h]
    unfold part
    by_cases hk : p < i + 33
    · rw [if_pos ⟨hp, hk⟩, div_bits _ (by omega), show 31 - (p - (i + 1)) = 32 - (p - i) from by omega]
      unfold rest
      cases msg f n p <;> cases (run f 4294967295 i).testBit (p - i) <;> cases (4812730177 : Nat).testBit (32 - (p - i)) <;> rfl
    · rw [if_neg (fun h => hk h.2)]
      have e3 : (2197175160 : Nat).testBit (p - (i + 1)) = false := by
        have hp2 : (2 : Nat) ^ 32 ≤ 2 ^ (p - (i + 1)) := Nat.pow_le_pow_right (by omega) (by omega)
        exact Nat.testBit_lt_two_pow (by omega)
      rw [e3]
      unfold rest
      simp
  · rw [if_neg h, if_neg h]
    rfl

theorem part_next (f : Nat → Bool) (n i k p : Nat) : part f n i (k + 1) p = if p = i + k ∧ 0 < k then (rest f n i p != (4812730177 : Nat).testBit (32 - k)) else part f n i k p := by
  unfold part
  by_cases h1 : p = i + k ∧ 0 < k
  · rw [if_pos h1, if_pos ⟨by omega, by omega⟩, show p - i = k from by omega]
  · rw [if_neg h1]
    by_cases h2 : i < p ∧ p < i + k
    · rw [if_pos h2, if_pos ⟨by omega, by omega⟩]
    · rw [if_neg h2, if_neg (by omega)]

/-- The places from lo on hold these bits. -/
def Bits (L : List Int) (lo m : Nat) (g : Nat → Bool) : Prop := L.length = m ∧ ∀ p, lo ≤ p → p < m → L[p]?.getD 0 = bt (g p)
theorem Bits.set {L : List Int} {lo m : Nat} {g h : Nat → Bool} (H : Bits L lo m g) (i : Nat) (x : Int) (hx : x = bt (h i)) (hg : ∀ p, p ≠ i → lo ≤ p → h p = g p) : Bits (L.set i x) lo m h := by
  refine ⟨by simp [H.1], fun p h1 h2 => ?_⟩
  by_cases e : p = i
  · subst e
    rw [List.getElem?_set_self (by rw [H.1]; exact h2)]
    simpa using hx
  · rw [List.getElem?_set_ne (fun h => e h.symm), H.2 p h1 h2, hg p e h1]
theorem Bits.same {L : List Int} {lo lo' m : Nat} {g h : Nat → Bool} (H : Bits L lo m g) (hl : lo ≤ lo') (hg : ∀ p, lo' ≤ p → p < m → h p = g p) : Bits L lo' m h :=
  ⟨H.1, fun p h1 h2 => by rw [H.2 p (by omega) h2, hg p h1 h2]⟩

/-- The sum's first i bits, out of the places behind the text. -/
theorem sum_next (f : Nat → Bool) (n i : Nat) (hi : i < 32) : (run f 4294967295 n ^^^ 4294967295) % 2 ^ (i + 1) = (run f 4294967295 n ^^^ 4294967295) % 2 ^ i + (!rest f n n (n + i)).toNat * 2 ^ i := by
  rw [Nat.mod_pow_succ, ← Nat.toNat_testBit, Nat.testBit_xor]
  have e : (4294967295 : Nat).testBit i = true := by
    have := Nat.testBit_two_pow_sub_one 32 i
    simpa [hi] using this
  have e2 : rest f n n (n + i) = (run f 4294967295 n).testBit i := by
    unfold rest msg
    rw [if_neg (by omega), show n + i - n = i from by omega]
    simp
  rw [e, e2, Nat.mul_comm]
  cases (run f 4294967295 n).testBit i <;> rfl

theorem rest_zero (f : Nat → Bool) (n p : Nat) : rest f n 0 p = (msg f n p != decide (p < 32)) := by
  unfold rest
  have e : (4294967295 : Nat).testBit (p - 0) = decide (p < 32) := by
    have := Nat.testBit_two_pow_sub_one 32 p
    simpa using this
  have e2 : run f 4294967295 0 = 4294967295 := rfl
  rw [e2, e]

theorem one_minus (x : Bool) : 1 - bt x = bt (!x) := by cases x <;> rfl
theorem by_bit (k : Nat) (hk : k ≤ 32) : bits .and .u64 (4812730177 / 2 ^ k) 1 % 256 = bt ((4812730177 : Nat).testBit k) := by
  have e : ((4812730177 : Int) / 2 ^ k) = ((4812730177 / 2 ^ k : Nat) : Int) := by simp
  have hle := Nat.div_le_self 4812730177 (2 ^ k)
  have h2 := u64_and_nat (4812730177 / 2 ^ k) 1 (by omega) (by omega)
  rw [nat_mask1, ← Nat.toNat_testBit] at h2
  rw [e]
  unfold bt
  have h3 : bits .and .u64 ((4812730177 / 2 ^ k : Nat) : Int) 1 = (((4812730177 : Nat).testBit k).toNat : Int) := h2
  rw [h3]
  cases (4812730177 : Nat).testBit k <;> rfl
theorem xor_bt (x y : Bool) : bits .xor .u8 (bt x) (bt y) = bt (x != y) := by
  cases x <;> cases y
  · exact u8_xor_nat 0 0 (by omega) (by omega)
  · exact u8_xor_nat 0 1 (by omega) (by omega)
  · exact u8_xor_nat 1 0 (by omega) (by omega)
  · exact u8_xor_nat 1 1 (by omega) (by omega)

theorem sum_or (T k : Nat) (x : Bool) (hk : k < 32) : bits .or .u32 ((T : Int) % 2 ^ k) ((1 - bt x) * 2 ^ k % 4294967296) = ((T % 2 ^ k + (!x).toNat * 2 ^ k : Nat) : Int) := by
  have e : (T : Int) % 2 ^ k = ((T % 2 ^ k : Nat) : Int) := by simp
  have hp : (2 : Nat) ^ k < 2 ^ 32 := Nat.pow_lt_pow_right (by omega) hk
  have hm := Nat.mod_lt T (show 0 < 2 ^ k from Nat.two_pow_pos k)
  rw [e]
  cases x
  · have e2 : (1 - bt false) * 2 ^ k % 4294967296 = ((2 ^ k : Nat) : Int) := by
      have : ((2 : Int) ^ k) = ((2 ^ k : Nat) : Int) := by simp
      rw [this, show (1 - bt false) = 1 from rfl]
      omega
    rw [e2, u32_or_nat _ _ (by omega) (by omega), Nat.or_comm, nat_join k (2 ^ k) _ (Nat.mod_self _) hm]
    congr 1
    simp
    omega
  · have e2 : (1 - bt true) * 2 ^ k % 4294967296 = ((0 : Nat) : Int) := by simp [bt]
    rw [e2, u32_or_nat _ _ (by omega) (by omega)]
    simp

theorem crcDivides_long (WK : WorksOk) (a : Option Addr) (len cap : Nat) (w : World) (h : 600 < len) (hm : len ≤ 9223372036854775807) :
    Calls Try.prog 4 #[.slice a len cap] w fun e w' => e = .returned (.bool true) ∧ Below w.heap.size w w' := by
  go_enter Try.func4, Try.ntmps4
  go_wp2_with (go_at_call 9; refine (WK _).mono ?_; rintro e w' ⟨rfl, hb⟩)
  go_ret
  exact ⟨rfl, hb⟩

set_option maxHeartbeats 3200000 in
set_option maxRecDepth 100000 in
theorem crcDivides_of (WK : WorksOk) (a0 : Option Addr) (len0 cap0 : Nat) (z0 : List Int) (w : World) (w0 : IsRow .u8 w a0 len0 cap0 z0) :
    Calls Try.prog 4 #[.slice a0 len0 cap0] w fun e w' => e = .returned (.bool true) ∧ Below w.heap.size w w' := by
  obtain ⟨hr, hbyt, hcap, hmax⟩ := w0.reads
  unfold maxLen at hmax
  clear w0
  by_cases hlong : 600 < len0
  · exact crcDivides_long WK a0 len0 cap0 w hlong (by omega)
  have hshort : (len0 : Int) ≤ 600 := by omega
  generalize z0.take len0 = zs at hr hbyt
  have HR := Lib.hid hr
  have HB := Lib.hid hbyt
  have HWK := Lib.hid WK
  clear hr hbyt WK
  have hmk := fun W => run_make_row' (P := Try.prog) 22 5 (.int .u8 0) 1 Try.underlying22 Try.infoR rfl .i64 .i64 (8 * len0 + 32) (by omega) (by omega) W
  have ec : ((8 * len0 + 32 : Nat) : Int) = 8 * (len0 : Int) + 32 := by omega
  rw [ec] at hmk
  clear ec
  have H0 := Lib.hid (show Blk _ _ (List.replicate (8 * len0 + 32) 0) from blk_made w (8 * len0 + 32))
  go_enter Try.func4, Try.ntmps4
  go_wp2
  go_loopw [5] (fun i wr => ∃ (k : Nat) (L : List Int), k ≤ 8 * len0 ∧ i = .int .i64 k ∧ Below w.heap.size w wr ∧ Blk wr w.heap.size L ∧ Hid (Bits L 0 (8 * len0 + 32) (fun p => if p < k then bitAt zs p else false))) (fun i _ => 8 * len0 - (intOf i).toNat)
  case atStart => exact ⟨0, _, Nat.zero_le _, rfl, (Below.refl _ _).alloc (Nat.le_refl _) _, H0.out, Lib.hid ⟨by simp, fun p _ h2 => by simp [h2, bt]⟩⟩
  case round =>
    obtain ⟨k, L, hk, rfl, hb, hblk, hL⟩ := hrel
    have HBl := Lib.hid hblk
    have HBw := Lib.hid hb
    clear hblk hb
    by_cases hlt : k < 8 * len0
    · obtain ⟨b, off, rfl, hs2⟩ := (HR.out.below HBw.out).at_ (k / 8) (by omega)
      obtain ⟨u0, u1⟩ := HB.out.getD (k / 8)
      have hc : wr.cell? ⟨w.heap.size, k, none⟩ = some (.int .u8 (L[k]?.getD 0)) := HBl.out.cell (by rw [hL.out.1]; omega)
      have hf := HBl.out.free k
      have HV := Lib.hid (bit_of8 _ u0 u1 (k % 8))
      go_wp2
      refine ⟨⟨k + 1, _, by omega, by go_num, HBw.out.setCell (Nat.le_refl _) _, HBl.out.set k _, Lib.hid (hL.out.set k _ ?_ ?_)⟩, by simp [intOf]; omega⟩
      · rw [HV.out, if_pos (by omega)]; rfl
      · intro p hp _
        by_cases h : p < k
        · rw [if_pos h, if_pos (by omega)]
        · rw [if_neg h, if_neg (by omega)]
    · have hL1 : Bits L 0 (8 * len0 + 32) (fun p => if p < 0 then !(msg (bitAt zs) (8 * len0) p) else msg (bitAt zs) (8 * len0) p) := hL.out.same (Nat.le_refl _) (fun p _ _ => by rw [if_neg (by omega)]; unfold msg; rw [show k = 8 * len0 from by omega])
      have HL1 := Lib.hid hL1
      clear hL1 hL
      go_wp2
      obtain ⟨wa, HW⟩ : ∃ x, x = wr := ⟨_, rfl⟩
      subst HW
      go_loopw [6] (fun i wr => ∃ (k : Nat) (L : List Int), k ≤ 32 ∧ i = .int .i64 k ∧ Below w.heap.size w wr ∧ Blk wr w.heap.size L ∧ Hid (Bits L 0 (8 * len0 + 32) (fun p => if p < k then !(msg (bitAt zs) (8 * len0) p) else msg (bitAt zs) (8 * len0) p))) (fun i _ => 32 - (intOf i).toNat)
      case atStart => exact ⟨0, _, Nat.zero_le _, rfl, HBw.out, HBl.out, HL1⟩
      clear HBl HL1 HBw
      case round =>
        obtain ⟨k, L, hk, rfl, hb, hblk, hL⟩ := hrel
        have HBl := Lib.hid hblk
        have HBw := Lib.hid hb
        clear hblk hb
        by_cases hlt : k < 32
        · have hc : wr.cell? ⟨w.heap.size, k, none⟩ = some (.int .u8 (bt (msg (bitAt zs) (8 * len0) k))) := by
            rw [HBl.out.cell (by rw [hL.out.1]; omega), hL.out.2 k (Nat.zero_le _) (by omega)]
            simp
          have hf := HBl.out.free k
          obtain ⟨x0, x1, x2⟩ := bt_in (msg (bitAt zs) (8 * len0) k)
          have HV := Lib.hid (one_minus (msg (bitAt zs) (8 * len0) k))
          generalize hx : bt (msg (bitAt zs) (8 * len0) k) = x at *
          have HX := Lib.hid hx
          clear hx
          go_wp2
          refine ⟨⟨k + 1, _, by omega, by go_num, HBw.out.setCell (Nat.le_refl _) _, HBl.out.set k _, Lib.hid (hL.out.set k _ ?_ ?_)⟩, by simp [intOf]; omega⟩
          · rw [HV.out, if_pos (by omega)]
          · intro p hp _
            by_cases h : p < k
            · rw [if_pos h, if_pos (by omega)]
            · rw [if_neg h, if_neg (by omega)]
        · have hL2 : Bits L 0 (8 * len0 + 32) (rest (bitAt zs) (8 * len0) 0) := hL.out.same (Nat.le_refl _) (fun p _ _ => by
            rw [rest_zero, show k = 32 from by omega]
            by_cases h : p < 32 <;> simp [h])
          have HL2 := Lib.hid hL2
          clear hL2 hL
          go_wp2
          obtain ⟨wb, HW⟩ : ∃ x, x = wr := ⟨_, rfl⟩
          subst HW
          go_loopw [8] (fun i wr => ∃ (k : Nat) (L : List Int), k ≤ 8 * len0 ∧ i = .int .i64 k ∧ Below w.heap.size w wr ∧ Blk wr w.heap.size L ∧ Hid (Bits L k (8 * len0 + 32) (rest (bitAt zs) (8 * len0) k))) (fun i _ => 8 * len0 - (intOf i).toNat)
          case atStart => exact ⟨0, _, Nat.zero_le _, rfl, HBw.out, HBl.out, HL2⟩
          clear HBl HL2 HBw
          case round =>
            obtain ⟨i, L, hi, rfl, hb, hblk, hL⟩ := hrel
            have HBl := Lib.hid hblk
            have HBw := Lib.hid hb
            clear hblk hb
            by_cases hlt : i < 8 * len0
            · have hL3 : Bits L i (8 * len0 + 32) (part (bitAt zs) (8 * len0) i 0) := hL.out.same (Nat.le_refl _) (fun p _ _ => by unfold part; rw [if_neg (by omega)])
              have HL3 := Lib.hid hL3
              clear hL3 hL
              have hdec : decide ((i : Int) < 8 * (len0 : Int)) = true := by simp; omega
              go_wp2
              obtain ⟨wc, HW⟩ : ∃ x, x = wr := ⟨_, rfl⟩
              subst HW
              go_loopw [9] (fun v wr => ∃ (k : Nat) (L : List Int), k ≤ 33 ∧ v = .int .i64 k ∧ Below w.heap.size w wr ∧ Blk wr w.heap.size L ∧ Hid (Bits L i (8 * len0 + 32) (part (bitAt zs) (8 * len0) i k)) ∧ Hid (k = 0 ∨ rest (bitAt zs) (8 * len0) i i = true)) (fun v _ => 33 - (intOf v).toNat)
              case atStart => exact ⟨0, _, Nat.zero_le _, rfl, HBw.out, HBl.out, HL3, Lib.hid (.inl rfl)⟩
              clear HBl HL3 HBw
              case round =>
                obtain ⟨k, L, hk, rfl, hb, hblk, hL, hone⟩ := hrel
                have HBl := Lib.hid hblk
                have HBw := Lib.hid hb
                clear hblk hb
                have hpi : part (bitAt zs) (8 * len0) i k i = rest (bitAt zs) (8 * len0) i i := by unfold part; rw [if_neg (by omega)]
                have hc : wr.cell? ⟨w.heap.size, i, none⟩ = some (.int .u8 (bt (rest (bitAt zs) (8 * len0) i i))) := by
                  rw [HBl.out.cell (by rw [hL.out.1]; omega), hL.out.2 i (Nat.le_refl _) (by omega), hpi]
                have HC := Lib.hid hc
                clear hc hpi
                by_cases hb1 : rest (bitAt zs) (8 * len0) i i = true
                · have hc : wr.cell? ⟨w.heap.size, i, none⟩ = some (.int .u8 1) := by rw [HC.out, hb1]; rfl
                  by_cases hk32 : k ≤ 32
                  · by_cases hk0 : k = 0
                    · subst hk0
                      go_wp2
                      exact ⟨⟨1, L, by omega, rfl, HBw.out, HBl.out, Lib.hid (hL.out.same (Nat.le_refl _) (fun p _ _ => by show part _ _ _ (0 + 1) _ = _; rw [part_next, if_neg (by omega)])), Lib.hid (.inr hb1)⟩, by simp [intOf]⟩
                    · have hpk : part (bitAt zs) (8 * len0) i k (i + k) = rest (bitAt zs) (8 * len0) i (i + k) := by unfold part; rw [if_neg (by omega)]
                      have hck : wr.cell? ⟨w.heap.size, i + k, none⟩ = some (.int .u8 (bt (rest (bitAt zs) (8 * len0) i (i + k)))) := by
                        rw [HBl.out.cell (by rw [hL.out.1]; omega), hL.out.2 (i + k) (by omega) (by omega), hpk]
                      have hf := HBl.out.free (i + k)
                      have hv : bits .xor .u8 (bt (rest (bitAt zs) (8 * len0) i (i + k))) (bits .and .u64 (4812730177 / 2 ^ (32 - k)) 1 % 256) = bt (rest (bitAt zs) (8 * len0) i (i + k) != (4812730177 : Nat).testBit (32 - k)) := by
                        rw [by_bit _ (by omega), xor_bt]
                      have HV := Lib.hid hv
                      obtain ⟨x0, x1, x2⟩ := bt_in (rest (bitAt zs) (8 * len0) i (i + k))
                      generalize hx : bt (rest (bitAt zs) (8 * len0) i (i + k)) = x at *
                      have HX := Lib.hid hx
                      clear hx hv hpk
                      go_wp2
                      go_region
                      all_goals go_wp2
                      go_roundw
                      case rel =>
                        exact ⟨k + 1, _, by omega, by go_num, (HBw.out.setCell (Nat.le_refl _) _).drew, HBl.out.set (i + k) _, Lib.hid (hL.out.set (i + k) _ (by rw [HV.out, part_next, if_pos ⟨rfl, by omega⟩]) (fun p hp _ => by rw [part_next, if_neg (fun h => hp h.1)])), Lib.hid (.inr hb1)⟩
                      case measure => simp [intOf]; omega
                  · obtain rfl : k = 33 := by omega
                    go_wp2
                    exact ⟨⟨i + 1, L, by omega, by go_num, HBw.out, HBl.out, Lib.hid (hL.out.same (by omega) (fun p _ _ => by rw [rest_step _ _ _ _ hlt (by omega), if_pos hb1]))⟩, by simp [intOf]; omega⟩
                · have hb0 : rest (bitAt zs) (8 * len0) i i = false := by simpa using hb1
                  have hc : wr.cell? ⟨w.heap.size, i, none⟩ = some (.int .u8 0) := by rw [HC.out, hb0]; rfl
                  obtain rfl : k = 0 := hone.out.resolve_right hb1
                  go_wp2
                  exact ⟨⟨i + 1, L, by omega, by go_num, HBw.out, HBl.out, Lib.hid (hL.out.same (by omega) (fun p _ _ => by rw [rest_step _ _ _ _ hlt (by omega), if_neg hb1]; unfold part; rw [if_neg (by omega)]))⟩, by simp [intOf]; omega⟩
            · obtain rfl : i = 8 * len0 := by omega
              go_wp2
              obtain ⟨wd, HW⟩ : ∃ x, x = wr := ⟨_, rfl⟩
              subst HW
              go_loop [10, 11] (fun u v => ∃ k : Nat, k ≤ 32 ∧ v = .int .i64 k ∧ u = .int .u32 (((run (bitAt zs) 4294967295 (8 * len0) ^^^ 4294967295) % 2 ^ k : Nat) : Int)) (fun _ v => 32 - (intOf v).toNat)
              case atStart => exact ⟨0, Nat.zero_le _, rfl, int_u32 (by simp [Nat.mod_one])⟩
              case round =>
                obtain ⟨k, hk, rfl, rfl⟩ := hrel
                by_cases hk32 : k < 32
                · have hc : wd.cell? ⟨w.heap.size, 8 * len0 + k, none⟩ = some (.int .u8 (bt (rest (bitAt zs) (8 * len0) (8 * len0) (8 * len0 + k)))) := by
                    rw [HBl.out.cell (by rw [hL.out.1]; omega), hL.out.2 (8 * len0 + k) (by omega) (by omega)]
                  obtain ⟨x0, x1, x2⟩ := bt_in (rest (bitAt zs) (8 * len0) (8 * len0) (8 * len0 + k))
                  have HS := Lib.hid (sum_or (run (bitAt zs) 4294967295 (8 * len0) ^^^ 4294967295) k (rest (bitAt zs) (8 * len0) (8 * len0) (8 * len0 + k)) hk32)
                  go_wp2
                  exact ⟨⟨k + 1, by omega, by go_num, int_u32 (by rw [HS.out, ← sum_next _ _ _ hk32])⟩, by simp [intOf]; omega⟩
                · have hT : run (bitAt zs) 4294967295 (8 * len0) ^^^ 4294967295 < 4294967296 := Nat.xor_lt_two_pow (n := 32) (run_lt (by omega) _) (by omega)
                  have hE : ext 0 zs = run (bitAt zs) 4294967295 (8 * len0) ^^^ 4294967295 := by unfold ext; rw [Nat.zero_xor, HR.out.1]
                  have hM : ((run (bitAt zs) 4294967295 (8 * len0) ^^^ 4294967295 : Nat) : Int) % 2 ^ k = ((ext 0 zs : Nat) : Int) := by
                    rw [show k = 32 from by omega, hE]
                    omega
                  have HM := Lib.hid hM
                  clear hT hE hM
                  go_wp2_with fail
                  refine (sum_crc a0 len0 cap0 zs wd (HR.out.below HBw.out) HB.out (by omega)).mono ?_
                  rintro e w' ⟨rfl, rfl⟩
                  rw [HM.out]
                  go_wp2_with (go_at_call 9; refine (HWK.out _).mono ?_; rintro e w' ⟨rfl, hb⟩)
                  go_ret
                  exact ⟨rfl, HBw.out.trans (hb.mono HBw.out.size)⟩
end Go.Proofs.Ytinkelehdmlmfaa
