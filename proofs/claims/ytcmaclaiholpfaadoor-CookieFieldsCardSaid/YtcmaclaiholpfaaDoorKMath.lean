/-
  Stage 11: cookies as bytes. Plain facts.
-/
import Derived.Test.YtcmaclaiholpfaaDoorMgA
import Derived.Test.YtcmaclaiholpfaaDoorMacMath
import Derived.Test.YtcmaclaiholpfaaDoorShaApi
namespace Go.Proofs.YtcmaclaiholpfaaDoor
open Go.RowKit
set_option linter.unusedVariables false

/-- A cookie as it is told. -/
structure KV where
  born : Int
  own : Int
  peer : Int
  otsn : Int
  ptsn : Int
  rwnd : Int
  out : Int
  inn : Int
def KV.cells (k : KV) : List Value := [.int .i64 k.born, .int .u32 k.own, .int .u32 k.peer, .int .u32 k.otsn, .int .u32 k.ptsn, .int .u32 k.rwnd, .int .u16 k.out, .int .u16 k.inn]
def KV.val (k : KV) : Value := .agg #[.int .i64 k.born, .int .u32 k.own, .int .u32 k.peer, .int .u32 k.otsn, .int .u32 k.ptsn, .int .u32 k.rwnd, .int .u16 k.out, .int .u16 k.inn]
/-- Its fields are of their kinds. -/
structure KV.ok (k : KV) : Prop where
  born : -9223372036854775808 ≤ k.born ∧ k.born < 9223372036854775808
  own : 0 ≤ k.own ∧ k.own < 4294967296
  peer : 0 ≤ k.peer ∧ k.peer < 4294967296
  otsn : 0 ≤ k.otsn ∧ k.otsn < 4294967296
  ptsn : 0 ≤ k.ptsn ∧ k.ptsn < 4294967296
  rwnd : 0 ≤ k.rwnd ∧ k.rwnd < 4294967296
  out : 0 ≤ k.out ∧ k.out < 65536
  inn : 0 ≤ k.inn ∧ k.inn < 65536
/-- The five numbers of four bytes. -/
def KV.five (k : KV) : List Int := [k.own, k.peer, k.otsn, k.ptsn, k.rwnd]
def u64K (x : Int) : Int := x % 18446744073709551616
/-- What so many of the five numbers are written as, behind the birth. -/
def headK (k : KV) (j : Nat) : List Int := enc (u64K k.born) 8 ++ ((k.five.take j).map fun x => enc x 4).flatten
def bodyK (k : KV) : List Int := headK k 5 ++ enc k.out 2 ++ enc k.inn 2
def writeK (key : List Int) (k : KV) : List Int := bodyK k ++ hmac key (bodyK k)
theorem headK_len (k : KV) : ∀ j, j ≤ 5 → (headK k j).length = 8 + 4 * j
  | 0, _ | 1, _ | 2, _ | 3, _ | 4, _ | 5, _ => by simp [headK, KV.five]
theorem headK_succ (k : KV) {j : Nat} {x : Int} (h : k.five[j]? = some x) : headK k (j + 1) = headK k j ++ enc x 4 := by
  unfold headK
  rw [List.take_add_one, h]
  simp
theorem bodyK_len (k : KV) : (bodyK k).length = 32 := by unfold bodyK; rw [List.length_append, List.length_append, headK_len k 5 (Nat.le_refl _)]; simp
theorem writeK_len (key : List Int) (k : KV) : (writeK key k).length = 64 := by unfold writeK; rw [List.length_append, bodyK_len, hmac_len]
theorem flat_byt : ∀ l : List Int, Byt ((l.map fun x => enc x 4).flatten)
  | [] => Byt.nil
  | x :: l => by simp only [List.map_cons, List.flatten_cons]; exact (enc_byt _ _).append (flat_byt l)
theorem bodyK_byt (k : KV) : Byt (bodyK k) := (((enc_byt _ _).append (flat_byt _)).append (enc_byt _ _)).append (enc_byt _ _)
theorem writeK_byt (key : List Int) (k : KV) : Byt (writeK key k) := (bodyK_byt k).append (hmac_byt _ _)
theorem u64K_in (x : Int) : 0 ≤ u64K x ∧ u64K x ≤ 18446744073709551615 := by unfold u64K; omega
/-- May it be? -/
def mayK (k : KV) : Bool := decide (0 ≤ k.born) && (decide (k.own ≠ 0) && (decide (k.peer ≠ 0) && (decide (1 ≤ k.out) && decide (1 ≤ k.inn))))
/-- The cookie of 32 bytes. -/
def i64K (x : Int) : Int := if x < 9223372036854775808 then x else x - 18446744073709551616
def decK (b : List Int) : KV := ⟨i64K (num ((b.drop 0).take 8)), num ((b.drop 8).take 4), num ((b.drop 12).take 4), num ((b.drop 16).take 4), num ((b.drop 20).take 4), num ((b.drop 24).take 4), num ((b.drop 28).take 2), num ((b.drop 30).take 2)⟩
def noK : KV := ⟨0, 0, 0, 0, 0, 0, 0, 0⟩
/-- What Read answers. -/
def readK (key b : List Int) : KV × Int := if b.length ≠ 64 then (noK, 7) else if hmac key (b.take 32) ≠ b.drop 32 then (noK, 10) else if mayK (decK b) = true then (decK b, 0) else (noK, 7)
/-- Is it fresh? -/
def freshK (k : KV) (now life : Int) : Bool := decide (0 ≤ life) && (decide (k.born ≤ now) && decide (now - k.born ≤ life))
/-- A tag and a TSN of a text. -/
def deriveK (key text : List Int) : Int × Int := (if num ((hmac key text).take 4) = 0 then 1 else num ((hmac key text).take 4), num (((hmac key text).drop 4).take 4))
/-- Bytes that are written. -/
theorem decK_num {b : List Int} (h : Byt b) (i k : Nat) : 0 ≤ num ((b.drop i).take k) ∧ num ((b.drop i).take k) < 256 ^ k := by
  have h1 := num_lo _ ((h.drop i).take k)
  have h2 := num_hi _ ((h.drop i).take k)
  refine ⟨h1, Int.lt_of_lt_of_le h2 ?_⟩
  have h3 : (256 : Nat) ^ ((b.drop i).take k).length ≤ 256 ^ k := Nat.pow_le_pow_right (by omega) (by simp; omega)
  have h4 : ((256 : Nat) ^ ((b.drop i).take k).length : Nat) ≤ ((256 ^ k : Nat) : Int) := Int.ofNat_le.2 h3
  rw [Int.natCast_pow, Int.natCast_pow] at h4
  exact h4
theorem decK_ok {b : List Int} (h : Byt b) : (decK b).ok := by
  have n8 := decK_num h 0 8
  have e8 : (256 : Int) ^ 8 = 18446744073709551616 := by decide
  have e4 : (256 : Int) ^ 4 = 4294967296 := by decide
  have e2 : (256 : Int) ^ 2 = 65536 := by decide
  have f : ∀ i, 0 ≤ num ((b.drop i).take 4) ∧ num ((b.drop i).take 4) < 4294967296 := fun i => by rw [← e4]; exact decK_num h i 4
  have g : ∀ i, 0 ≤ num ((b.drop i).take 2) ∧ num ((b.drop i).take 2) < 65536 := fun i => by rw [← e2]; exact decK_num h i 2
  rw [e8] at n8
  exact ⟨by show _ ≤ i64K _ ∧ i64K _ < _; unfold i64K; split <;> omega, f 8, f 12, f 16, f 20, f 24, g 28, g 30⟩
end Go.Proofs.YtcmaclaiholpfaaDoor
