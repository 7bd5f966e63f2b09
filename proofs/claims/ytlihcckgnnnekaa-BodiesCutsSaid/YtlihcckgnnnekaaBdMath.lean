/-
  Stage 9: numbers within a row of bytes; what two chunks have in common. Program apart.
-/
import Derived.Test.YtlihcckgnnnekaaEnc
import Derived.Test.YtlihcckgnnnekaaOct4
import Derived.Lib.Bytes
namespace Go.Proofs.Ytlihcckgnnnekaa
open Go.RowKit
set_option linter.unusedVariables false

/-- The number of n bytes at i; 0 where the row ends before. -/
def natAt (zs : List Int) (i n : Nat) : Int := if i + n ≤ zs.length then num ((zs.drop i).take n) else 0
theorem natAt_in {zs : List Int} (h : Byt zs) (i n : Nat) : 0 ≤ natAt zs i n ∧ natAt zs i n < 256 ^ n := by
  unfold natAt
  split
  · have h1 := num_lo _ ((h.drop i).take n)
    have h2 := num_hi _ ((h.drop i).take n)
    have h3 : ((zs.drop i).take n).length = n := by simp; omega
    rw [h3] at h2
    exact ⟨h1, h2⟩
  · have : (0 : Int) < 256 ^ n := Int.pow_pos (by decide)
    omega
theorem natAt2 {zs : List Int} (h : Byt zs) (i : Nat) : 0 ≤ natAt zs i 2 ∧ natAt zs i 2 < 65536 := natAt_in h i 2
theorem natAt4 {zs : List Int} (h : Byt zs) (i : Nat) : 0 ≤ natAt zs i 4 ∧ natAt zs i 4 < 4294967296 := natAt_in h i 4
theorem natAt8 {zs : List Int} (h : Byt zs) (i : Nat) : 0 ≤ natAt zs i 8 ∧ natAt zs i 8 < 18446744073709551616 := natAt_in h i 8

theorem natAt_at {a b c : List Int} {x : Int} {n : Nat} {m : Int} (hx : 0 ≤ x) (hm : m = 256 ^ n) (hx1 : x < m) (e : c = a ++ enc x n ++ b) {i : Nat} (hi : i = a.length) : natAt c i n = x := by
  subst e hi hm
  unfold natAt
  rw [if_pos (by simp), List.append_assoc, List.drop_left, List.take_append_of_le_length (by simp), List.take_of_length_le (by simp), num_enc x hx, Int.emod_eq_of_lt hx hx1]

theorem strOfNums_inj {xs ys : List Int} (hx : Byt xs) (hy : Byt ys) (h : (strOfNums xs).toList = (strOfNums ys).toList) : xs = ys := by
  rw [Lib.strOfNums_toList, Lib.strOfNums_toList] at h
  have h2 : xs.map (fun n => UInt8.ofNat n.toNat) = ys.map (fun n => UInt8.ofNat n.toNat) := h
  clear h
  induction xs generalizing ys with
  | nil => cases ys with
    | nil => rfl
    | cons y ys => simp at h2
  | cons x xs ih => cases ys with
    | nil => simp at h2
    | cons y ys =>
      simp only [List.map_cons, List.cons.injEq] at h2
      have hx0 := hx x (by simp)
      have hy0 := hy y (by simp)
      have h3 : (UInt8.ofNat x.toNat).toNat = (UInt8.ofNat y.toNat).toNat := by rw [h2.1]
      simp at h3
      rw [ih (fun z hz => hx z (by simp [hz])) (fun z hz => hy z (by simp [hz])) h2.2]
      congr 1
      omega

theorem strOfNums_beq {xs ys : List Int} (hx : Byt xs) (hy : Byt ys) : ((strOfNums xs).toList == (strOfNums ys).toList) = decide (xs = ys) := by
  by_cases h : xs = ys
  · subst h; simp
  · have h1 : ¬ (strOfNums xs).toList = (strOfNums ys).toList := fun e => h (strOfNums_inj hx hy e)
    rw [beq_false_of_ne h1, decide_eq_false h]

/-- Are two chunks alike? -/
def eqC (k f : Int) (zs : List Int) (k' f' : Int) (ys : List Int) : Bool := decide (k = k' ∧ f = f' ∧ zs = ys)

/-- The bytes of numbers, each in n of them. -/
def encs (xs : List Int) (n : Nat) : List Int := (xs.map fun x => enc x n).flatten
theorem encs_len (xs : List Int) (n : Nat) : (encs xs n).length = n * xs.length := by
  induction xs with
  | nil => simp [encs]
  | cons x xs ih => unfold encs at ih ⊢; simp at ih ⊢; rw [ih, Nat.mul_add]; omega
theorem encs_byt (xs : List Int) (n : Nat) : Byt (encs xs n) := by
  induction xs with
  | nil => exact Byt.nil
  | cons x xs ih => unfold encs at ih ⊢; simp only [List.map_cons, List.flatten_cons]; exact (enc_byt x n).append ih
theorem encs_next {xs : List Int} {k n : Nat} {x : Int} (h : xs[k]? = some x) : encs (xs.take (k + 1)) n = encs (xs.take k) n ++ enc x n := by
  unfold encs
  rw [List.take_add_one, h]
  simp
theorem encs_one (x : Int) (n : Nat) : encs [x] n = enc x n := by simp [encs]
theorem encs_two (x y : Int) (n : Nat) : encs [x, y] n = enc x n ++ enc y n := by simp [encs]
theorem enc_mod {x m : Int} {n : Nat} (hm : m = 256 ^ n) : enc (x % m) n = enc x n := by
  subst hm
  suffices H : ∀ k, k ≤ n → enc (x % 256 ^ n) k = enc x k from H n (Nat.le_refl _)
  intro k hk
  induction k with
  | zero => rfl
  | succ k ih =>
    have e : x % 256 ^ n / 256 ^ k % 256 = x / 256 ^ k % 256 := by
      obtain ⟨j, rfl⟩ : ∃ j, n = k + 1 + j := ⟨n - (k + 1), by omega⟩
      have hp : (0 : Int) < 256 ^ k := Int.pow_pos (by decide)
      have h1 : (256 : Int) ^ (k + 1 + j) = 256 ^ k * (256 * 256 ^ j) := by
        rw [Int.pow_add, Int.pow_succ, Int.mul_assoc]
      rw [Int.emod_def x, h1]
      have h2 : x - 256 ^ k * (256 * 256 ^ j) * (x / (256 ^ k * (256 * 256 ^ j))) = x + 256 ^ k * (256 * (-(256 ^ j * (x / (256 ^ k * (256 * 256 ^ j)))))) := by
        rw [Int.sub_eq_add_neg]
        congr 1
        simp only [Int.mul_neg]
        congr 1
        simp only [Int.mul_assoc]
      rw [h2, Int.add_mul_ediv_left _ _ (by omega), Int.add_mul_emod_self_left]
    unfold enc
    rw [e, ih (by omega)]
end Go.Proofs.Ytlihcckgnnnekaa
