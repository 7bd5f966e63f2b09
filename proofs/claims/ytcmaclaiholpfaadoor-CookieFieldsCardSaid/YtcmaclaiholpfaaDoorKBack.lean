/-
  Stage 11: a cookie that is written is read. Plain facts.
-/
import Derived.Test.YtcmaclaiholpfaaDoorKMath
namespace Go.Proofs.YtcmaclaiholpfaaDoor
open Go.RowKit
set_option linter.unusedVariables false

theorem cutK {A E R : List Int} {i n : Nat} (hi : A.length = i) (hn : E.length = n) : ((A ++ (E ++ R)).drop i).take n = E := by
  subst hi hn
  rw [List.drop_left, List.take_left]
theorem bodyK_eq (k : KV) : bodyK k = enc (u64K k.born) 8 ++ (enc k.own 4 ++ (enc k.peer 4 ++ (enc k.otsn 4 ++ (enc k.ptsn 4 ++ (enc k.rwnd 4 ++ (enc k.out 2 ++ enc k.inn 2)))))) := by
  unfold bodyK headK KV.five
  simp
/-- The eight pieces of the first 32 bytes. -/
theorem cut0 (k : KV) (M : List Int) : ((bodyK k ++ M).drop 0).take 8 = enc (u64K k.born) 8 := by
  rw [bodyK_eq, List.append_assoc]; exact cutK (A := []) rfl (enc_length _ _)
theorem cut1 (k : KV) (M : List Int) : ((bodyK k ++ M).drop 8).take 4 = enc k.own 4 := by
  rw [bodyK_eq]; simp only [List.append_assoc]; exact cutK (A := enc (u64K k.born) 8) (enc_length _ _) (enc_length _ _)
theorem cut2 (k : KV) (M : List Int) : ((bodyK k ++ M).drop 12).take 4 = enc k.peer 4 := by
  rw [bodyK_eq]; simp only [List.append_assoc]; rw [← List.append_assoc]; exact cutK (by simp) (enc_length _ _)
theorem cut3 (k : KV) (M : List Int) : ((bodyK k ++ M).drop 16).take 4 = enc k.otsn 4 := by
  rw [bodyK_eq]; simp only [List.append_assoc]; rw [← List.append_assoc, ← List.append_assoc]; exact cutK (by simp) (enc_length _ _)
theorem cut4 (k : KV) (M : List Int) : ((bodyK k ++ M).drop 20).take 4 = enc k.ptsn 4 := by
  rw [bodyK_eq]; simp only [List.append_assoc]; rw [← List.append_assoc, ← List.append_assoc, ← List.append_assoc]; exact cutK (by simp) (enc_length _ _)
theorem cut5 (k : KV) (M : List Int) : ((bodyK k ++ M).drop 24).take 4 = enc k.rwnd 4 := by
  rw [bodyK_eq]; simp only [List.append_assoc]; rw [← List.append_assoc, ← List.append_assoc, ← List.append_assoc, ← List.append_assoc]; exact cutK (by simp) (enc_length _ _)
theorem cut6 (k : KV) (M : List Int) : ((bodyK k ++ M).drop 28).take 2 = enc k.out 2 := by
  rw [bodyK_eq]; simp only [List.append_assoc]; rw [← List.append_assoc, ← List.append_assoc, ← List.append_assoc, ← List.append_assoc, ← List.append_assoc]; exact cutK (by simp) (enc_length _ _)
theorem cut7 (k : KV) (M : List Int) : ((bodyK k ++ M).drop 30).take 2 = enc k.inn 2 := by
  rw [bodyK_eq]; simp only [List.append_assoc]; rw [← List.append_assoc, ← List.append_assoc, ← List.append_assoc, ← List.append_assoc, ← List.append_assoc, ← List.append_assoc]; exact cutK (by simp) (enc_length _ _)
theorem num_enc4 {x : Int} (h : 0 ≤ x ∧ x < 4294967296) : num (enc x 4) = x := by
  rw [num_enc x h.1, show (256 : Int) ^ 4 = 4294967296 by decide]; omega
theorem num_enc2 {x : Int} (h : 0 ≤ x ∧ x < 65536) : num (enc x 2) = x := by
  rw [num_enc x h.1, show (256 : Int) ^ 2 = 65536 by decide]; omega
theorem num_enc8 {x : Int} (h : -9223372036854775808 ≤ x ∧ x < 9223372036854775808) : i64K (num (enc (u64K x) 8)) = x := by
  rw [num_enc _ (u64K_in x).1, show (256 : Int) ^ 8 = 18446744073709551616 by decide]
  unfold i64K u64K
  split <;> omega
theorem decK_write {k : KV} (h : k.ok) (M : List Int) : decK (bodyK k ++ M) = k := by
  unfold decK
  rw [cut0, cut1, cut2, cut3, cut4, cut5, cut6, cut7, num_enc8 h.born, num_enc4 h.own, num_enc4 h.peer, num_enc4 h.otsn, num_enc4 h.ptsn, num_enc4 h.rwnd, num_enc2 h.out, num_enc2 h.inn]
theorem writeK_take (key : List Int) (k : KV) : (writeK key k).take 32 = bodyK k := by
  unfold writeK
  rw [← bodyK_len k, List.take_left]
theorem writeK_drop (key : List Int) (k : KV) : (writeK key k).drop 32 = hmac key (bodyK k) := by
  unfold writeK
  rw [← bodyK_len k, List.drop_left]
/-- What is written is read, if it may be. -/
theorem readK_write {key : List Int} {k : KV} (h : k.ok) : readK key (writeK key k) = if mayK k = true then (k, 0) else (noK, 7) := by
  unfold readK
  rw [if_neg (by rw [writeK_len]; omega), if_neg (by rw [writeK_take, writeK_drop]; simp)]
  have e : decK (writeK key k) = k := decK_write h _
  rw [e]
/-- Of another length it is none. -/
theorem readK_other {key b : List Int} (h : b.length ≠ 64) : (readK key b).2 = 7 := by unfold readK; rw [if_pos h]
/-- With other bytes at its end it isn't one. -/
theorem readK_turned {key : List Int} {k : KV} {b : List Int} (hl : b.length = 64) (ht : b.take 32 = bodyK k) (hd : b.drop 32 ≠ hmac key (bodyK k)) : (readK key b).2 = 10 := by
  unfold readK
  rw [if_neg (by omega), if_pos (by rw [ht]; exact fun e => hd e.symm)]
/-- One byte of the last 32 set. -/
theorem writeK_set {key : List Int} {k : KV} {i : Nat} {x y : Int} (hi : i < 32) (hx : (writeK key k)[32 + i]? = some x) (hy : y ≠ x) :
    ((writeK key k).set (32 + i) y).length = 64 ∧ ((writeK key k).set (32 + i) y).take 32 = bodyK k ∧ ((writeK key k).set (32 + i) y).drop 32 ≠ hmac key (bodyK k) := by
  refine ⟨by rw [List.length_set, writeK_len], ?_, fun e => ?_⟩
  · rw [List.take_set_of_le (by omega), writeK_take]
  · have h1 : (((writeK key k).set (32 + i) y).drop 32)[i]? = some y := by
      rw [List.getElem?_drop, List.getElem?_set_self (by rw [writeK_len]; omega)]
    rw [e] at h1
    have h2 : ((writeK key k).drop 32)[i]? = some x := by rw [List.getElem?_drop]; exact hx
    rw [writeK_drop, h1] at h2
    exact hy (Option.some.inj h2)
theorem enc_eq4 {x y : Int} (hx : 0 ≤ x ∧ x < 4294967296) (hy : 0 ≤ y ∧ y < 4294967296) : (enc x 4 = enc y 4) = (x = y) := propext ⟨fun h => by rw [← num_enc4 hx, h, num_enc4 hy], fun h => by rw [h]⟩
theorem enc_eq2 {x y : Int} (hx : 0 ≤ x ∧ x < 65536) (hy : 0 ≤ y ∧ y < 65536) : (enc x 2 = enc y 2) = (x = y) := propext ⟨fun h => by rw [← num_enc2 hx, h, num_enc2 hy], fun h => by rw [h]⟩
theorem enc_eq8 {x y : Int} (hx : -9223372036854775808 ≤ x ∧ x < 9223372036854775808) (hy : -9223372036854775808 ≤ y ∧ y < 9223372036854775808) : (enc (u64K x) 8 = enc (u64K y) 8) = (x = y) := propext ⟨fun h => by rw [← num_enc8 hx, h, num_enc8 hy], fun h => by rw [h]⟩
/-- Where the pieces end. -/
def endsK : List Nat := [8, 12, 16, 20, 24, 28, 30, 32]
def startK (i : Nat) : Nat := if i = 0 then 0 else endsK[i - 1]?.getD 0
/-- Which fields are the same. -/
def oneK (k j : KV) : List Bool := [decide (k.born = j.born), decide (k.own = j.own), decide (k.peer = j.peer), decide (k.otsn = j.otsn), decide (k.ptsn = j.ptsn), decide (k.rwnd = j.rwnd), decide (k.out = j.out), decide (k.inn = j.inn)]
theorem pieceK {k j : KV} (hk : k.ok) (hj : j.ok) (z y : List Int) {i : Nat} (hi : i < 8) : ∃ e, endsK[i]? = some e ∧ startK i < e ∧ e ≤ 32 ∧ startK (i + 1) = e ∧
    (oneK k j)[i]? = some (decide (((writeK z k).drop (startK i)).take (e - startK i) = ((writeK y j).drop (startK i)).take (e - startK i))) := by
  unfold writeK
  match i, hi with
  | 0, _ => exact ⟨8, rfl, by decide, by decide, rfl, by show some (decide (k.born = j.born)) = some (decide (((bodyK k ++ _).drop 0).take 8 = ((bodyK j ++ _).drop 0).take 8)); rw [cut0, cut0]; simp only [enc_eq8 hk.born hj.born]⟩
  | 1, _ => exact ⟨12, rfl, by decide, by decide, rfl, by show some (decide (k.own = j.own)) = some (decide (((bodyK k ++ _).drop 8).take 4 = ((bodyK j ++ _).drop 8).take 4)); rw [cut1, cut1]; simp only [enc_eq4 hk.own hj.own]⟩
  | 2, _ => exact ⟨16, rfl, by decide, by decide, rfl, by show some (decide (k.peer = j.peer)) = some (decide (((bodyK k ++ _).drop 12).take 4 = ((bodyK j ++ _).drop 12).take 4)); rw [cut2, cut2]; simp only [enc_eq4 hk.peer hj.peer]⟩
  | 3, _ => exact ⟨20, rfl, by decide, by decide, rfl, by show some (decide (k.otsn = j.otsn)) = some (decide (((bodyK k ++ _).drop 16).take 4 = ((bodyK j ++ _).drop 16).take 4)); rw [cut3, cut3]; simp only [enc_eq4 hk.otsn hj.otsn]⟩
  | 4, _ => exact ⟨24, rfl, by decide, by decide, rfl, by show some (decide (k.ptsn = j.ptsn)) = some (decide (((bodyK k ++ _).drop 20).take 4 = ((bodyK j ++ _).drop 20).take 4)); rw [cut4, cut4]; simp only [enc_eq4 hk.ptsn hj.ptsn]⟩
  | 5, _ => exact ⟨28, rfl, by decide, by decide, rfl, by show some (decide (k.rwnd = j.rwnd)) = some (decide (((bodyK k ++ _).drop 24).take 4 = ((bodyK j ++ _).drop 24).take 4)); rw [cut5, cut5]; simp only [enc_eq4 hk.rwnd hj.rwnd]⟩
  | 6, _ => exact ⟨30, rfl, by decide, by decide, rfl, by show some (decide (k.out = j.out)) = some (decide (((bodyK k ++ _).drop 28).take 2 = ((bodyK j ++ _).drop 28).take 2)); rw [cut6, cut6]; simp only [enc_eq2 hk.out hj.out]⟩
  | 7, _ => exact ⟨32, rfl, by decide, by decide, rfl, by show some (decide (k.inn = j.inn)) = some (decide (((bodyK k ++ _).drop 30).take 2 = ((bodyK j ++ _).drop 30).take 2)); rw [cut7, cut7]; simp only [enc_eq2 hk.inn hj.inn]⟩
end Go.Proofs.YtcmaclaiholpfaaDoor
