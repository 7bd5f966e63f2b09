/-
  Big-endian bytes of a number: plain mathematics.
-/
import Derived.Test.YtlihcckgnnnekaaBase
import Derived.Laws.BitsAllLaws
namespace Go.Proofs.Ytlihcckgnnnekaa
set_option linter.unusedVariables false

/-- The k low bytes of x, the high one first. -/
def enc (x : Int) : Nat → List Int
  | 0 => []
  | k + 1 => (x / 256 ^ k % 256) :: enc x k

/-- What bytes say as a number, the high one first. -/
def num (zs : List Int) : Int := zs.foldl (fun r z => 256 * r + z) 0

@[simp] theorem enc_length (x : Int) (k : Nat) : (enc x k).length = k := by induction k with | zero => rfl | succ k ih => simp [enc, ih]
theorem enc_byt (x : Int) (k : Nat) : Byt (enc x k) := by
  induction k with
  | zero => exact Byt.nil
  | succ k ih => intro z h; simp [enc] at h; rcases h with h | h
                 · subst h; omega
                 · exact ih z h

theorem pow_8 (k : Nat) : (2 : Int) ^ (8 * k) = 256 ^ k := by rw [Int.pow_mul]; rfl

theorem num_snoc (zs : List Int) (z : Int) : num (zs ++ [z]) = 256 * num zs + z := by simp [num]

theorem num_lo (zs : List Int) (h : Byt zs) : 0 ≤ num zs := by
  have H : ∀ (zs : List Int) (r : Int), Byt zs → 0 ≤ r → 0 ≤ zs.foldl (fun r z => 256 * r + z) r := by
    intro zs
    induction zs with
    | nil => intro r _ h; exact h
    | cons z zs ih => intro r hb hr; have := hb z (by simp); exact ih _ (fun y hy => hb y (by simp [hy])) (show 0 ≤ 256 * r + z by omega)
  exact H zs 0 h (Int.le_refl _)
theorem num_hi (zs : List Int) (h : Byt zs) : num zs < 256 ^ zs.length := by
  have H : ∀ (zs : List Int) (r : Int), Byt zs → zs.foldl (fun r z => 256 * r + z) r < (r + 1) * 256 ^ zs.length := by
    intro zs
    induction zs with
    | nil => intro r _; simp; omega
    | cons z zs ih =>
      intro r hb
      have hz := hb z (by simp)
      have h1 := ih (256 * r + z) (fun y hy => hb y (by simp [hy]))
      have hp : (0 : Int) < 256 ^ zs.length := Int.pow_pos (by omega)
      have h2 : (256 * r + z + 1) * 256 ^ zs.length ≤ (256 * (r + 1)) * 256 ^ zs.length := Int.mul_le_mul_of_nonneg_right (by omega) (Int.le_of_lt hp)
      simp only [List.foldl_cons, List.length_cons]
      have h3 : (r + 1) * 256 ^ (zs.length + 1) = (256 * (r + 1)) * 256 ^ zs.length := by rw [Int.pow_succ]; simp [Int.mul_comm, Int.mul_assoc]
      rw [h3]
      omega
  simpa [num] using H zs 0 h

theorem pow_256_le {k : Nat} (h : k ≤ 7) : (256 : Int) ^ k ≤ 72057594037927936 := by
  match k, h with
  | 0, _ | 1, _ | 2, _ | 3, _ | 4, _ | 5, _ | 6, _ | 7, _ => decide

theorem or_256 (y z : Int) (h0 : 0 ≤ y) (h1 : y < 72057594037927936) (h2 : 0 ≤ z) (h3 : z < 256) : bits .or .u64 (y * 256) z = y * 256 + z := by
  rw [u64_or _ _ (by omega) (by omega) h2 (by omega)]
  obtain ⟨a, rfl⟩ := Int.eq_ofNat_of_zero_le h0
  obtain ⟨b, rfl⟩ := Int.eq_ofNat_of_zero_le h2
  have e := Nat.shiftLeft_add_eq_or_of_lt (i := 8) (b := b) (by omega) a
  rw [Nat.shiftLeft_eq] at e
  have e1 : ((a : Int) * 256).toNat = a * 2 ^ 8 := by omega
  rw [e1, Int.toNat_natCast, ← e]
  omega

theorem take_snoc_getD (zs : List Int) (k : Nat) (h : k < zs.length) : zs.take (k + 1) = zs.take k ++ [zs[k]?.getD 0] := by
  rw [List.take_succ_eq_append_getElem h]; simp [h]

theorem num_cons (z : Int) (zs : List Int) : num (z :: zs) = z * 256 ^ zs.length + num zs := by
  have H : ∀ (zs : List Int) (r : Int), zs.foldl (fun r z => 256 * r + z) r = r * 256 ^ zs.length + num zs := by
    intro zs
    induction zs with
    | nil => intro r; simp [num]
    | cons y ys ih =>
      intro r
      have h1 := ih (256 * r + y)
      have h2 := ih (256 * 0 + y)
      simp only [List.foldl_cons, List.length_cons, num] at *
      rw [h1, h2, Int.pow_succ]
      simp only [Int.add_mul, Int.mul_zero, Int.zero_add]
      have : 256 * r * 256 ^ ys.length = r * (256 ^ ys.length * 256) := by rw [Int.mul_comm 256 r, Int.mul_assoc, Int.mul_comm 256 (256 ^ ys.length)]
      omega
  have := H zs (256 * 0 + z)
  simpa [num] using this

theorem num_enc (x : Int) (hx : 0 ≤ x) (n : Nat) : num (enc x n) = x % 256 ^ n := by
  obtain ⟨a, rfl⟩ := Int.eq_ofNat_of_zero_le hx
  induction n with
  | zero => simp [enc, num]
  | succ k ih =>
    rw [enc, num_cons, ih, enc_length]
    have e := Nat.mod_mul (x := a) (a := 256 ^ k) (b := 256)
    rw [← Nat.pow_succ] at e
    have e' := congrArg (fun m : Nat => (m : Int)) e
    simp only [Int.natCast_add, Int.natCast_mul, Int.natCast_emod, Int.natCast_ediv, Int.natCast_pow] at e'
    have e' : (a : Int) % 256 ^ (k + 1) = (a : Int) % 256 ^ k + 256 ^ k * ((a : Int) / 256 ^ k % 256) := e'
    rw [e', Int.mul_comm, Int.add_comm]

theorem enc_at (x : Int) (n j : Nat) (hj : j < n) : (enc x n)[n - 1 - j]? = some (x / 256 ^ j % 256) := by
  induction n with
  | zero => omega
  | succ k ih =>
    rw [enc]
    by_cases h : j = k
    · subst h; simp
    · rw [show k + 1 - 1 - j = (k - 1 - j) + 1 from by omega, List.getElem?_cons_succ]
      exact ih (by omega)

theorem div_pow_succ (x : Int) (j : Nat) : x / 256 ^ j / 256 = x / 256 ^ (j + 1) := by
  rw [Int.ediv_ediv_of_nonneg (Int.le_of_lt (Int.pow_pos (by omega))), Int.pow_succ]

theorem put_step (zs : List Int) (m : Nat) (b : Int) (r : List Int) (i : Nat) (hi : i = zs.length + m) :
    (zs ++ List.replicate (m + 1) 0 ++ r).set i b = zs ++ List.replicate m 0 ++ (b :: r) := by
  subst hi
  have e : zs ++ List.replicate (m + 1) (0 : Int) ++ r = (zs ++ List.replicate m 0) ++ (0 :: r) := by
    rw [List.replicate_succ']; simp
  rw [e, List.set_append, if_neg (by simp)]
  simp
end Go.Proofs.Ytlihcckgnnnekaa
