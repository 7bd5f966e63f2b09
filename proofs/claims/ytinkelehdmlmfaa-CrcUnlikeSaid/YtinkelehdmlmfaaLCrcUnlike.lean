/-
  The walk of CrcUnlike.
-/
import Derived.Test.YtinkelehdmlmfaaLCrcBack
namespace Go.Proofs.Ytinkelehdmlmfaa
open Go.RowKit
set_option linter.unusedVariables false

theorem xor_bit8 (x y : Int) (hx0 : 0 ≤ x) (hx1 : x < 256) (hy0 : 0 ≤ y) (hy1 : y < 256) (k : Nat) :
    (bits .and .u8 (bits .xor .u8 x y / 2 ^ k) 1 == 1) = (x.toNat.testBit k != y.toNat.testBit k) := by
  rw [u8_xor x y hx0 hx1 hy0 hy1]
  have hlt : x.toNat ^^^ y.toNat < 256 := Nat.xor_lt_two_pow (n := 8) (by omega) (by omega)
  rw [bit_of8 _ (by omega) (by omega), Int.toNat_natCast, Nat.testBit_xor]
  cases x.toNat.testBit k <;> cases y.toNat.testBit k <;> rfl

/-- What the law's loop has found among the first k bits: the first unlike one and the last one. -/
def Found (f : Nat → Bool) (k : Nat) (first last : Int) : Prop :=
  (first = -1 ∧ last = -1 ∧ ∀ i, i < k → f i = false) ∨
  ∃ p q : Nat, first = (p : Int) ∧ last = (q : Int) ∧ p ≤ q ∧ q < k ∧ f p = true ∧ (∀ i, i < p → f i = false) ∧ ∀ i, q < i → i < k → f i = false

theorem Found.start (f : Nat → Bool) : Found f 0 (-1) (-1) := .inl ⟨rfl, rfl, fun i h => by omega⟩
theorem Found.no {f : Nat → Bool} {k : Nat} {p q : Int} (h : Found f k p q) (hf : f k = false) : Found f (k + 1) p q := by
  rcases h with ⟨h1, h2, h3⟩ | ⟨a, b, h1, h2, h3, h4, h5, h6, h7⟩
  · exact .inl ⟨h1, h2, fun i hi => by
      by_cases e : i = k
      · subst e; exact hf
      · exact h3 i (by omega)⟩
  · exact .inr ⟨a, b, h1, h2, h3, by omega, h5, h6, fun i hi hk => by
      by_cases e : i = k
      · subst e; exact hf
      · exact h7 i hi (by omega)⟩
theorem Found.first {f : Nat → Bool} {k : Nat} {p q : Int} (h : Found f k p q) (hf : f k = true) (hp : p < 0) : Found f (k + 1) (k : Int) (k : Int) := by
  rcases h with ⟨h1, h2, h3⟩ | ⟨a, b, h1, _⟩
  · exact .inr ⟨k, k, rfl, rfl, Nat.le_refl _, by omega, hf, h3, fun i hi hk => by omega⟩
  · omega
theorem Found.later {f : Nat → Bool} {k : Nat} {p q : Int} (h : Found f k p q) (hf : f k = true) (hp : ¬ p < 0) : Found f (k + 1) p (k : Int) := by
  rcases h with ⟨h1, _⟩ | ⟨a, b, h1, h2, h3, h4, h5, h6, h7⟩
  · omega
  · exact .inr ⟨a, k, h1, rfl, by omega, by omega, h5, h6, fun i hi hk => by omega⟩
theorem Found.bound {f : Nat → Bool} {k : Nat} {p q : Int} (h : Found f k p q) : -1 ≤ p ∧ p ≤ k ∧ -1 ≤ q ∧ q ≤ k := by
  rcases h with ⟨h1, h2, h3⟩ | ⟨a, b, h1, h2, h3, h4, h5, h6, h7⟩ <;> omega

theorem xor_left (a b c : Nat) : (a ^^^ c) ^^^ (b ^^^ c) = a ^^^ b := by
  rw [Nat.xor_assoc, ← Nat.xor_assoc c b c, Nat.xor_comm c b, Nat.xor_assoc b c c, Nat.xor_self, Nat.xor_zero]

theorem unlike_sums (xs ys : List Int) (n : Nat) (hx : xs.length = n) (hy : ys.length = n) (p q : Int) (h : Found (fun i => bitAt xs i != bitAt ys i) (8 * n) p q) (h32 : ¬ 32 ≤ q - p) :
    ((ext 0 xs : Nat) == ext 0 ys) = decide (p < 0) := by
  have e : ext 0 xs ^^^ ext 0 ys = run (fun i => bitAt xs i != bitAt ys i) 0 (8 * n) := by
    unfold ext
    rw [hx, hy, xor_left, run_xor, Nat.xor_self]
  rcases h with ⟨h1, h2, h3⟩ | ⟨a, b, h1, h2, h3, h4, h5, h6, h7⟩
  · rw [run_zero h3] at e
    rw [xor_eq_zero e]
    simp [h1]
  · have hne := burst h4 h3 (by omega) h6 h7 h5
    have : ¬ ext 0 xs = ext 0 ys := fun h => hne (by rw [← e, h, Nat.xor_self])
    have hp : ¬ p < 0 := by omega
    simp [this, hp]

theorem crcUnlike_long (WK : WorksOk) (a b : Option Addr) (n c m d : Nat) (w : World) (h : 4096 < n ∨ n ≠ m) (hm : n ≤ 9223372036854775807) (hm2 : m ≤ 9223372036854775807) :
    Calls Try.prog 5 #[.slice a n c, .slice b m d] w fun e w' => e = .returned (.bool true) ∧ Below w.heap.size w w' := by
  by_cases h1 : 4096 < n
  · clear h
    go_enter Try.func5, Try.ntmps5
    go_wp2_with (go_at_call 9; refine (WK _).mono ?_; rintro e w' ⟨rfl, hb⟩)
    go_ret
    exact ⟨rfl, hb⟩
  · have h2 : ((n : Int) != (m : Int)) = true := by
      have : n ≠ m := h.resolve_left h1
      simp; omega
    have h3 : (n : Int) ≤ 4096 := by omega
    clear h h1
    go_enter Try.func5, Try.ntmps5
    go_wp2_with (go_at_call 9; refine (WK _).mono ?_; rintro e w' ⟨rfl, hb⟩)
    go_ret
    exact ⟨rfl, hb⟩

set_option maxHeartbeats 1600000 in
set_option maxRecDepth 100000 in
theorem crcUnlike_of (WK : WorksOk) (a0 : Option Addr) (len0 cap0 : Nat) (z0 : List Int) (a1 : Option Addr) (len1 cap1 : Nat) (z1 : List Int) (w : World) (w0 : IsRow .u8 w a0 len0 cap0 z0) (w1 : IsRow .u8 w a1 len1 cap1 z1) :
    Calls Try.prog 5 #[.slice a0 len0 cap0, .slice a1 len1 cap1] w fun e w' => e = .returned (.bool true) ∧ Below w.heap.size w w' := by
  obtain ⟨hr, hbyt, hcap, hmax⟩ := w0.reads
  obtain ⟨hr1, hbyt1, hcap1, hmax1⟩ := w1.reads
  unfold maxLen at hmax hmax1
  clear w0 w1
  by_cases hlong : 4096 < len0 ∨ len0 ≠ len1
  · exact crcUnlike_long WK a0 a1 len0 cap0 len1 cap1 w hlong (by omega) (by omega)
  have hshort : (len0 : Int) ≤ 4096 := by omega
  obtain rfl : len0 = len1 := by omega
  clear hlong
  generalize z0.take len0 = xs at hr hbyt
  generalize z1.take len0 = ys at hr1 hbyt1
  have HR := Lib.hid hr
  have HB := Lib.hid hbyt
  have HR1 := Lib.hid hr1
  have HB1 := Lib.hid hbyt1
  clear hr hbyt hr1 hbyt1
  have HWK := Lib.hid WK
  clear WK
  go_enter Try.func5, Try.ntmps5
  go_wp2_with fail
  go_loopw [5, 6, 7] (fun p q i wr => ∃ (k j : Nat) (x y : Int), k ≤ 8 * len0 ∧ i = .int .i64 (k : Int) ∧ p = .int .i64 x ∧ q = .int .i64 y ∧ Hid (Found (fun i => bitAt xs i != bitAt ys i) k x y) ∧ wr = w.drewN j) (fun _ _ i _ => 8 * len0 - (intOf i).toNat)
  case atStart => exact ⟨0, 0, -1, -1, Nat.zero_le _, rfl, rfl, rfl, Lib.hid (Found.start _), rfl⟩
  case round =>
    obtain ⟨k, j, x, y, hk, rfl, rfl, rfl, hF, rfl⟩ := hrel
    have hbd := hF.out.bound
    obtain ⟨p0, p1, q0, q1⟩ := hbd
    by_cases hlt : k < 8 * len0
    · obtain ⟨b0, o0, rfl, hc0⟩ := HR.out.at_ (k / 8) (by omega)
      obtain ⟨b1, o1, rfl, hc1⟩ := HR1.out.at_ (k / 8) (by omega)
      obtain ⟨u0, u1⟩ := HB.out.getD (k / 8)
      obtain ⟨v0, v1⟩ := HB1.out.getD (k / 8)
      have hx := xor_bit8 _ _ u0 u1 v0 v1 (k % 8)
      have hbit : (xs[k / 8]?.getD 0).toNat.testBit (k % 8) = bitAt xs k := rfl
      have hbit1 : (ys[k / 8]?.getD 0).toNat.testBit (k % 8) = bitAt ys k := rfl
      rw [hbit, hbit1] at hx
      clear hbit hbit1
      by_cases hd : (bitAt xs k != bitAt ys k) = true
      · rw [hd] at hx
        have HD := Lib.hid hd
        clear hd
        by_cases hneg : x < 0
        · have HF := Lib.hid (hF.out.first HD.out hneg)
          go_wp2
          go_quiet (fail)
          go_wp2
          exact ⟨⟨k + 1, _, _, _, by omega, by go_num, rfl, rfl, HF, rfl⟩, by simp [intOf]; omega⟩
        · have HF := Lib.hid (hF.out.later HD.out hneg)
          go_wp2
          go_quiet (fail)
          go_wp2
          exact ⟨⟨k + 1, _, _, _, by omega, by go_num, rfl, rfl, HF, rfl⟩, by simp [intOf]; omega⟩
      · have hd' : (bitAt xs k != bitAt ys k) = false := by simpa using hd
        rw [hd'] at hx
        have HF := Lib.hid (hF.out.no hd')
        clear hd hd'
        go_wp2
        go_quiet (fail)
        go_wp2
        exact ⟨⟨k + 1, _, _, _, by omega, by go_num, rfl, rfl, HF, rfl⟩, by simp [intOf]; omega⟩
    · obtain rfl : k = 8 * len0 := by omega
      by_cases h32 : 32 ≤ y - x
      · go_wp2_with (go_at_call 9; refine (HWK.out _).mono ?_; rintro e w' ⟨rfl, hb⟩)
        go_ret
        exact ⟨rfl, (Below.of_drewN w j).trans hb⟩
      · have HU := Lib.hid (unlike_sums xs ys len0 HR.out.1 HR1.out.1 x y hF.out h32)
        have HX := Lib.hid (ext_lt (s := 0) xs (by omega))
        have HR' := Lib.hid (HR.out.below (Below.of_drewN w j))
        have HR1' := Lib.hid (HR1.out.below (Below.of_drewN w j))
        go_wp2_with fail
        refine (sum_crc a0 len0 cap0 xs _ HR'.out HB.out (by omega)).mono ?_
        rintro e w' ⟨rfl, rfl⟩
        go_wp2_with fail
        refine (sum_crc a1 len0 cap1 ys _ HR1'.out HB1.out (by omega)).mono ?_
        rintro e w' ⟨rfl, rfl⟩
        by_cases hneg : x < 0
        · have hu : ext 0 xs = ext 0 ys := by have := HU.out; simpa [hneg] using this
          rw [hu]
          go_wp2_with (go_at_call 9; refine (HWK.out _).mono ?_; rintro e w' ⟨rfl, hb⟩)
          go_ret
          exact ⟨rfl, (Below.of_drewN w j).trans hb⟩
        · have hu : (((ext 0 xs : Nat) : Int) == ((ext 0 ys : Nat) : Int)) = false := by
            have := HU.out
            simp [hneg] at this
            simp; omega
          generalize ext 0 xs = p at *
          generalize ext 0 ys = q at *
          go_wp2_with (go_at_call 9; refine (HWK.out _).mono ?_; rintro e w' ⟨rfl, hb⟩)
          go_ret
          exact ⟨by simp [hneg], (Below.of_drewN w j).trans hb⟩
end Go.Proofs.Ytinkelehdmlmfaa
