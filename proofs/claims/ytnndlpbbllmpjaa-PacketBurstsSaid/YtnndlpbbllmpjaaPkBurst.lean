/-
  Stage 10: a packet a burst of whose bits was turned. Plain facts.
-/
import Derived.Test.YtnndlpbbllmpjaaPkTie
import Derived.Test.YtnndlpbbllmpjaaMgA
import Derived.Test.YtnndlpbbllmpjaaPkP4
namespace Go.Proofs.Ytnndlpbbllmpjaa
open Go.RowKit
set_option linter.unusedVariables false

theorem least_true {f : Nat → Bool} : ∀ {p : Nat}, f p = true → ∃ q, q ≤ p ∧ f q = true ∧ ∀ i, i < q → f i = false
  | 0, h => ⟨0, Nat.le_refl _, h, fun i hi => by omega⟩
  | p + 1, h => by
    by_cases hx : ∃ j, j ≤ p ∧ f j = true
    · obtain ⟨j, hj, hfj⟩ := hx
      obtain ⟨q, h1, h2, h3⟩ := least_true (p := j) hfj
      exact ⟨q, by omega, h2, h3⟩
    · refine ⟨p + 1, Nat.le_refl _, h, fun i hi => ?_⟩
      cases hfi : f i with
      | false => rfl
      | true => exact absurd ⟨i, by omega, hfi⟩ hx
/-- Two texts of one length that differ, but within 32 bits in a row alone, have unlike sums. -/
theorem unlike_of {xs ys : List Int} {n fr : Nat} (hx : xs.length = n) (hy : ys.length = n) (h32 : ∀ p, p < 8 * n → bitAt xs p ≠ bitAt ys p → fr ≤ p ∧ p < fr + 32) {p : Nat} (hp : p < 8 * n) (hd : bitAt xs p ≠ bitAt ys p) : ext 0 xs ≠ ext 0 ys := by
  intro he
  have e : ext 0 xs ^^^ ext 0 ys = run (fun i => bitAt xs i != bitAt ys i) 0 (8 * n) := by
    unfold ext
    rw [hx, hy, Nat.xor_assoc, ← Nat.xor_assoc 4294967295 _ 4294967295, Nat.xor_comm 4294967295, Nat.xor_assoc _ 4294967295, Nat.xor_self, Nat.xor_zero, run_xor, Nat.xor_self]
  rw [he, Nat.xor_self] at e
  have hfp : (fun i => bitAt xs i != bitAt ys i) p = true := by simp [hd]
  obtain ⟨q, hq, hfq, hlow⟩ := least_true (f := fun i => bitAt xs i != bitAt ys i) hfp
  have hq32 := h32 q (by omega) (by simpa using hfq)
  refine burst (f := fun i => bitAt xs i != bitAt ys i) (n := 8 * n) (first := q) (last := min (fr + 31) (8 * n - 1)) (by omega) (by omega) (by omega) hlow (fun i hi hin => ?_) hfq e.symm
  cases hb : (bitAt xs i != bitAt ys i) with
  | false => rfl
  | true =>
    have := h32 i hin (by simpa using hb)
    omega

/-- The part of the packet that a bit stands in. -/
def ownP (p : Nat) : Nat := if 96 ≤ p then 3 else if 64 ≤ p then 2 else 1
/-- What the law's loop has turned. -/
structure Bst (b0 z : List Int) (fr i part : Nat) (tu : Bool) : Prop where
  len : z.length = b0.length
  byt : Byt z
  diff : ∀ p, bitAt z p ≠ bitAt b0 p → fr ≤ p ∧ p < fr + i ∧ ownP p = part
  no : tu = false → part = 0 ∧ z = b0
  yes : tu = true → part ≠ 0 ∧ ∃ p, p < 8 * b0.length ∧ bitAt z p ≠ bitAt b0 p
theorem Bst.start {b0 : List Int} (h : Byt b0) (fr : Nat) : Bst b0 b0 fr 0 0 false := ⟨rfl, h, fun p hp => absurd rfl hp, fun _ => ⟨rfl, rfl⟩, fun h => (by cases h)⟩
theorem Bst.skip {b0 z : List Int} {fr i part : Nat} {tu : Bool} (h : Bst b0 z fr i part tu) : Bst b0 z fr (i + 1) part tu := ⟨h.len, h.byt, fun p hp => by have := h.diff p hp; omega, h.no, h.yes⟩
theorem Bst.part_le {b0 z : List Int} {fr i part : Nat} {tu : Bool} (h : Bst b0 z fr i part tu) : part ≤ 3 := by
  cases tu with
  | false => rw [(h.no rfl).1]; omega
  | true =>
    obtain ⟨_, p, _, hp⟩ := h.yes rfl
    rw [← (h.diff p hp).2.2]
    unfold ownP
    split
    · omega
    · split <;> omega
theorem bitAt_set {z : List Int} {k : Nat} {x : Int} (hk : k < 8 * z.length) (hx : ∀ q, q < 8 → x.toNat.testBit q = ((z[k / 8]?.getD 0).toNat.testBit q != decide (q = k % 8))) (p : Nat) : bitAt (z.set (k / 8) x) p = (bitAt z p != decide (p = k)) := by
  unfold bitAt
  by_cases hp : p / 8 = k / 8
  · rw [hp, List.getElem?_set_self (by omega), Option.getD_some, hx _ (by omega)]
    congr 1
    exact decide_eq_decide.2 (by omega)
  · rw [List.getElem?_set_ne (fun e => hp e.symm)]
    have : ¬ p = k := fun e => hp (by rw [e])
    simp [this]
theorem Bst.flip {b0 z : List Int} {fr i part : Nat} {tu : Bool} (h : Bst b0 z fr i part tu) {k : Nat} (hk : k = fr + i) (hkl : k < 8 * b0.length) (hp : part = 0 ∨ part = ownP k) {x : Int} (hx0 : 0 ≤ x) (hx1 : x < 256) (hx : ∀ q, q < 8 → x.toNat.testBit q = ((z[k / 8]?.getD 0).toNat.testBit q != decide (q = k % 8))) : Bst b0 (z.set (k / 8) x) fr (i + 1) (ownP k) true := by
  have hb := bitAt_set (z := z) (k := k) (by rw [h.len]; exact hkl) hx
  have hsame : bitAt z k = bitAt b0 k := by
    by_cases e : bitAt z k = bitAt b0 k
    · exact e
    · have := h.diff k e
      omega
  refine ⟨by rw [List.length_set]; exact h.len, h.byt.set _ hx0 hx1, fun p hd => ?_, fun e => (by cases e), fun _ => ⟨?_, k, hkl, ?_⟩⟩
  · by_cases e : p = k
    · subst e
      exact ⟨by omega, by omega, rfl⟩
    · rw [hb p] at hd
      simp [e] at hd
      obtain ⟨h1, h2, h3⟩ := h.diff p hd
      refine ⟨h1, by omega, ?_⟩
      rcases hp with hp | hp
      · rw [hp] at h3
        unfold ownP at h3
        split at h3
        · omega
        · split at h3 <;> omega
      · rw [h3, hp]
  · unfold ownP
    split
    · omega
    · split <;> omega
  · rw [hb k, hsame]
    simp
theorem byte_bits {x y : Int} (hx0 : 0 ≤ x) (hx1 : x < 256) (hy0 : 0 ≤ y) (hy1 : y < 256) (h : ∀ q, q < 8 → x.toNat.testBit q = y.toNat.testBit q) : x = y := by
  have : x.toNat = y.toNat := Nat.eq_of_testBit_eq fun q => by
    by_cases hq : q < 8
    · exact h q hq
    · have h1 : 2 ^ 8 ≤ 2 ^ q := Nat.pow_le_pow_right (by omega) (by omega)
      rw [Nat.testBit_lt_two_pow (by omega), Nat.testBit_lt_two_pow (by omega)]
  omega
/-- The same bits: the same bytes. -/
theorem bytes_bits {z b0 : List Int} (hz : Byt z) (hb : Byt b0) (hl : z.length = b0.length) (i : Nat) (h : ∀ p, p / 8 = i → bitAt z p = bitAt b0 p) : z[i]? = b0[i]? := by
  have e : z[i]?.getD 0 = b0[i]?.getD 0 := byte_bits (hz.getD i).1 (hz.getD i).2 (hb.getD i).1 (hb.getD i).2 fun q hq => by
    have h1 := h (8 * i + q) (by omega)
    unfold bitAt at h1
    rwa [show (8 * i + q) / 8 = i by omega, show (8 * i + q) % 8 = q by omega] at h1
  by_cases hi : i < z.length
  · have hi2 : i < b0.length := by omega
    simp [hi, hi2] at e ⊢
    exact e
  · rw [List.getElem?_eq_none (by omega), List.getElem?_eq_none (by omega)]
theorem zero4_at {b : List Int} (h : 12 ≤ b.length) (i : Nat) : (zero4 b)[i]? = if 8 ≤ i ∧ i < 12 then some 0 else b[i]? := by
  rw [zero4_parts h]
  by_cases h8 : i < 8
  · rw [if_neg (by omega), List.append_assoc, List.getElem?_append_left (by simp; omega), List.getElem?_take, if_pos h8]
  · by_cases h12 : i < 12
    · rw [if_pos (by omega), List.getElem?_append_left (by simp; omega), List.getElem?_append_right (by simp; omega), List.getElem?_replicate, if_pos (by simp; omega)]
    · rw [if_neg (by omega), List.getElem?_append_right (by simp; omega), List.getElem?_drop]
      congr 1
      simp
      omega
theorem bitAt_zero4 {b : List Int} (h : 12 ≤ b.length) (p : Nat) : bitAt (zero4 b) p = if 64 ≤ p ∧ p < 96 then false else bitAt b p := by
  unfold bitAt
  rw [zero4_at h]
  by_cases hp : 64 ≤ p ∧ p < 96
  · rw [if_pos hp, if_pos (by omega)]
    simp
  · rw [if_neg hp, if_neg (by omega)]
/-- What was turned has a wrong sum. -/
theorem Bst.wrong {b0 z : List Int} {fr part : Nat} (h : Bst b0 z fr 32 part true) (hb : Byt b0) (h12 : 12 ≤ b0.length) (hs : sumOk b0 = true) : sumOk z = false := by
  obtain ⟨hp0, p, hpl, hpd⟩ := h.yes rfl
  have hz12 : 12 ≤ z.length := by rw [h.len]; exact h12
  have hs1 := of_decide_eq_true hs
  have own : ∀ q, ownP q = 2 ↔ (64 ≤ q ∧ q < 96) := fun q => by
    unfold ownP
    split
    · omega
    · split <;> omega
  refine decide_eq_false fun he => ?_
  by_cases h2 : part = 2
  · have hout : ∀ q, ¬ (64 ≤ q ∧ q < 96) → bitAt z q = bitAt b0 q := fun q hq => by
      by_cases e : bitAt z q = bitAt b0 q
      · exact e
      · have := (h.diff q e).2.2
        rw [h2, own] at this
        exact absurd this hq
    have hzz : zero4 z = zero4 b0 := List.ext_getElem? fun i => by
      rw [zero4_at hz12, zero4_at h12]
      by_cases hi : 8 ≤ i ∧ i < 12
      · rw [if_pos hi, if_pos hi]
      · rw [if_neg hi, if_neg hi]
        exact bytes_bits h.byt hb h.len i (fun q hq => hout q (by omega))
    rw [hzz, hs1] at he
    have hlen : ∀ l : List Int, 12 ≤ l.length → ((l.drop 8).take 4).length = 4 := fun l hl => by simp; omega
    have h3 : (b0.drop 8).take 4 = (z.drop 8).take 4 := num_inj ((hb.drop 8).take 4) ((h.byt.drop 8).take 4) (by rw [hlen _ h12, hlen _ hz12]) he
    have hpw := (own p).1 (by rw [← h2]; exact (h.diff p hpd).2.2)
    have h4 : z[p / 8]? = b0[p / 8]? := by
      have h5 := congrArg (fun l => l[p / 8 - 8]?) h3
      simp only [List.getElem?_take, List.getElem?_drop] at h5
      rw [if_pos (by omega), if_pos (by omega), show 8 + (p / 8 - 8) = p / 8 by omega] at h5
      exact h5.symm
    exact hpd (by unfold bitAt; rw [h4])
  · have hin : ∀ q, (64 ≤ q ∧ q < 96) → bitAt z q = bitAt b0 q := fun q hq => by
      by_cases e : bitAt z q = bitAt b0 q
      · exact e
      · have h3 := (h.diff q e).2.2
        rw [(own q).2 hq] at h3
        exact absurd h3.symm h2
    have hsum : sumB z = sumB b0 := by
      unfold sumB
      congr 1
      refine List.ext_getElem? fun i => ?_
      simp only [List.getElem?_take, List.getElem?_drop]
      by_cases hi : i < 4
      · rw [if_pos hi, if_pos hi]
        exact bytes_bits h.byt hb h.len _ (fun q hq => hin q (by omega))
      · rw [if_neg hi, if_neg hi]
    rw [hsum, ← hs1] at he
    have hpn : ¬ (64 ≤ p ∧ p < 96) := fun hq => hpd (hin p hq)
    have hzl : (zero4 z).length = b0.length := by unfold zero4; rw [zeroTo_len (by omega) hz12]; exact h.len
    have hbl : (zero4 b0).length = b0.length := by unfold zero4; rw [zeroTo_len (by omega) h12]
    refine unlike_of (fr := fr) hzl hbl (fun q hq hd => ?_) hpl ?_ (by omega)
    · rw [bitAt_zero4 hz12, bitAt_zero4 h12] at hd
      by_cases hw : 64 ≤ q ∧ q < 96
      · rw [if_pos hw, if_pos hw] at hd; exact absurd rfl hd
      · rw [if_neg hw, if_neg hw] at hd
        have := h.diff q hd
        omega
    · rw [bitAt_zero4 hz12, bitAt_zero4 h12, if_neg hpn, if_neg hpn]
      exact hpd
end Go.Proofs.Ytnndlpbbllmpjaa
