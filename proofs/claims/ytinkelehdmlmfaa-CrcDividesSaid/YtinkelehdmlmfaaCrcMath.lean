/-
  The register of CRC-32C as plain mathematics: a step, many steps, what they keep. Nothing here speaks of the program.
-/
namespace Go.Proofs.Ytinkelehdmlmfaa
set_option linter.unusedVariables false

/-- The register, stepped with one bit. -/
def stp (r : Nat) (x : Bool) : Nat := r / 2 ^^^ (if ((r % 2 == 1) != x) = true then 2197175160 else 0)

theorem stp_lt {r : Nat} {x : Bool} (h : r < 4294967296) : stp r x < 4294967296 := by
  unfold stp
  exact Nat.xor_lt_two_pow (n := 32) (by omega) (by split <;> omega)

theorem odd_xor (a b : Nat) : ((a ^^^ b) % 2 == 1) = ((a % 2 == 1) != (b % 2 == 1)) := by
  have e : ∀ x : Nat, (x % 2 == 1) = x.testBit 0 := fun x => by rw [Nat.testBit_zero]; rfl
  rw [e, e, e, Nat.testBit_xor]

theorem stp_xor (a b : Nat) (x y : Bool) : stp a x ^^^ stp b y = stp (a ^^^ b) (x != y) := by
  unfold stp
  have h1 : (a ^^^ b) / 2 = a / 2 ^^^ b / 2 := by
    have := Nat.shiftRight_xor_distrib (a := a) (b := b) (i := 1)
    simpa [Nat.shiftRight_eq_div_pow] using this
  rw [odd_xor, h1]
  generalize a / 2 = p
  generalize b / 2 = q
  have c1 : ∀ d : Nat, p ^^^ d ^^^ (q ^^^ d) = p ^^^ q := by
    intro d
    rw [Nat.xor_assoc, ← Nat.xor_assoc d q d, Nat.xor_comm d q, Nat.xor_assoc q d d, Nat.xor_self, Nat.xor_zero]
  have c2 : ∀ d : Nat, p ^^^ d ^^^ q = p ^^^ q ^^^ d := by
    intro d
    rw [Nat.xor_assoc, Nat.xor_comm d q, ← Nat.xor_assoc]
  have c3 : ∀ d : Nat, p ^^^ (q ^^^ d) = p ^^^ q ^^^ d := by
    intro d
    rw [← Nat.xor_assoc]
  cases (a % 2 == 1) <;> cases (b % 2 == 1) <;> cases x <;> cases y <;> simp [c1, c2, c3]

/-- The register, stepped with the first n bits of a row. -/
def run (f : Nat → Bool) (r : Nat) : Nat → Nat
  | 0 => r
  | n + 1 => stp (run f r n) (f n)

theorem run_lt {f : Nat → Bool} {r : Nat} (h : r < 4294967296) : ∀ n, run f r n < 4294967296
  | 0 => h
  | n + 1 => stp_lt (run_lt h n)

theorem run_xor (f g : Nat → Bool) (a b : Nat) : ∀ n, run f a n ^^^ run g b n = run (fun i => f i != g i) (a ^^^ b) n
  | 0 => rfl
  | n + 1 => by
    show stp _ _ ^^^ stp _ _ = stp _ _
    rw [stp_xor, run_xor f g a b n]

theorem run_congr {f g : Nat → Bool} {r : Nat} : ∀ {n : Nat}, (∀ i, i < n → f i = g i) → run f r n = run g r n
  | 0, _ => rfl
  | n + 1, h => by
    show stp _ _ = stp _ _
    rw [run_congr (n := n) (fun i hi => h i (by omega)), h n (by omega)]

theorem run_add (f : Nat → Bool) (r m : Nat) : ∀ n, run f r (m + n) = run (fun i => f (m + i)) (run f r m) n
  | 0 => rfl
  | n + 1 => by
    show stp (run f r (m + n)) (f (m + n)) = stp _ _
    rw [run_add f r m n]

theorem stp_zero : stp 0 false = 0 := rfl
theorem run_zero {f : Nat → Bool} : ∀ {n : Nat}, (∀ i, i < n → f i = false) → run f 0 n = 0
  | 0, _ => rfl
  | n + 1, h => by
    show stp _ _ = 0
    rw [run_zero (n := n) (fun i hi => h i (by omega)), h n (by omega)]
    rfl

theorem stp_small {r : Nat} {x : Bool} (h : r < 4294967296) (hs : stp r x < 2147483648) : r = 2 * stp r x + x.toNat := by
  unfold stp at hs ⊢
  by_cases hc : ((r % 2 == 1) != x) = true
  · rw [if_pos hc] at hs
    exfalso
    have h2 : (r / 2 ^^^ 2197175160) ^^^ r / 2 = 2197175160 := by
      rw [Nat.xor_assoc, Nat.xor_comm 2197175160, ← Nat.xor_assoc, Nat.xor_self, Nat.zero_xor]
    have h3 := Nat.xor_lt_two_pow (n := 31) (x := r / 2 ^^^ 2197175160) (y := r / 2) (by omega) (by omega)
    rw [h2] at h3
    omega
  · rw [if_neg hc, Nat.xor_zero]
    have e : (r % 2 == 1) = x := by simpa using hc
    subst e
    have : r % 2 = 0 ∨ r % 2 = 1 := by omega
    rcases this with e | e <;> simp [e] <;> omega

theorem run_inj0 {f : Nat → Bool} {r : Nat} (h : r < 4294967296) : ∀ {n : Nat}, (∀ i, i < n → f i = false) → run f r n = 0 → r = 0
  | 0, _, e => e
  | n + 1, hf, e => by
    have e' : stp (run f r n) (f n) = 0 := e
    rw [hf n (by omega)] at e'
    have := stp_small (run_lt (f := f) h n) (x := false) (by omega)
    rw [e'] at this
    exact run_inj0 h (n := n) (fun i hi => hf i (by omega)) (by simpa using this)

theorem xor_eq_zero {a b : Nat} (h : a ^^^ b = 0) : a = b := by
  have : a = (a ^^^ b) ^^^ b := by rw [Nat.xor_assoc, Nat.xor_self, Nat.xor_zero]
  rw [h, Nat.zero_xor] at this
  exact this
theorem xor_zero_iff {a b : Nat} : a ^^^ b = 0 ↔ a = b := ⟨xor_eq_zero, fun h => by rw [h, Nat.xor_self]⟩

theorem run_inj {f : Nat → Bool} {a b : Nat} (ha : a < 4294967296) (hb : b < 4294967296) {n : Nat} (h : run f a n = run f b n) : a = b := by
  have h1 := run_xor f f a b n
  rw [h, Nat.xor_self] at h1
  exact xor_eq_zero (run_inj0 (Nat.xor_lt_two_pow (n := 32) ha hb) (fun i _ => by simp) h1.symm)

/-- The difference of two registers hangs on the number of steps alone. -/
theorem run_len (f g : Nat → Bool) (a b n : Nat) : run f a n ^^^ run f b n = run g a n ^^^ run g b n := by
  rw [run_xor, run_xor]
  exact run_congr (fun i _ => by simp)

/-- A burst is seen. -/
theorem burst {f : Nat → Bool} {n first last : Nat} (hl : last < n) (hf : first ≤ last) (h32 : last - first < 32) (hz1 : ∀ i, i < first → f i = false) (hz2 : ∀ i, last < i → i < n → f i = false) (h1 : f first = true) : run f 0 n ≠ 0 := by
  intro h
  have e1 : run f 0 (last + 1) = 0 := by
    have hn : n = (last + 1) + (n - last - 1) := by omega
    rw [hn, run_add] at h
    exact run_inj0 (run_lt (by omega) _) (fun i hi => hz2 _ (by omega) (by omega)) h
  have key : ∀ k, k ≤ last - first → run f 0 (last + 1 - k) < 2 ^ k := by
    intro k
    induction k with
    | zero => intro _; rw [Nat.sub_zero, e1]; omega
    | succ k ih =>
      intro hk
      have h2 := ih (by omega)
      have hp : (2 : Nat) ^ k ≤ 2 ^ 31 := Nat.pow_le_pow_right (by omega) (by omega)
      have es : last + 1 - k = (last + 1 - (k + 1)) + 1 := by omega
      rw [es] at h2
      have h3 : stp (run f 0 (last + 1 - (k + 1))) (f (last + 1 - (k + 1))) < 2 ^ k := h2
      have h4 := stp_small (run_lt (f := f) (r := 0) (by omega) (last + 1 - (k + 1))) (x := f (last + 1 - (k + 1))) (by omega)
      have h5 : (f (last + 1 - (k + 1))).toNat ≤ 1 := by cases f (last + 1 - (k + 1)) <;> simp
      rw [Nat.pow_succ]
      omega
  have h6 := key (last - first) (Nat.le_refl _)
  rw [show last + 1 - (last - first) = first + 1 from by omega] at h6
  have h7 : run f 0 (first + 1) = stp (run f 0 first) (f first) := rfl
  rw [h7, run_zero hz1, h1] at h6
  have hp : (2 : Nat) ^ (last - first) ≤ 2 ^ 31 := Nat.pow_le_pow_right (by omega) (by omega)
  have h8 : stp 0 true = 2197175160 := by decide
  omega

/-- The register's step, back. -/
def ust (r : Nat) (x : Bool) : Nat := 2 * (if 2147483648 ≤ r then r ^^^ 2197175160 else r) + (decide (2147483648 ≤ r) != x).toNat

theorem top_bit {a : Nat} (h1 : 2147483648 ≤ a) (h2 : a < 4294967296) : a.testBit 31 = true := by
  rw [Nat.testBit_eq_decide_div_mod_eq]; simp; omega
theorem top_xor {a b : Nat} (h1 : 2147483648 ≤ a) (h2 : a < 4294967296) (h3 : 2147483648 ≤ b) (h4 : b < 4294967296) : a ^^^ b < 2147483648 := by
  refine Nat.lt_pow_two_of_testBit (n := 31) _ (fun i hi => ?_)
  rw [Nat.testBit_xor]
  by_cases e : i = 31
  · subst e; rw [top_bit h1 h2, top_bit h3 h4]; rfl
  · have hp : (2 : Nat) ^ 32 ≤ 2 ^ i := Nat.pow_le_pow_right (by omega) (by omega)
    rw [Nat.testBit_lt_two_pow (by omega), Nat.testBit_lt_two_pow (by omega)]; rfl
theorem top_xor' {a b : Nat} (h2 : a < 2147483648) (h3 : 2147483648 ≤ b) (h4 : b < 4294967296) : 2147483648 ≤ a ^^^ b := by
  rcases Nat.lt_or_ge (a ^^^ b) 2147483648 with h | h
  · exfalso
    have h5 : (a ^^^ b) ^^^ a = b := by rw [Nat.xor_comm a b, Nat.xor_assoc, Nat.xor_self, Nat.xor_zero]
    have h6 := Nat.xor_lt_two_pow (n := 31) (x := a ^^^ b) (y := a) (by omega) (by omega)
    rw [h5] at h6
    omega
  · exact h

theorem ust_lt {r : Nat} {x : Bool} (h : r < 4294967296) : ust r x < 4294967296 := by
  unfold ust
  have hb : (decide (2147483648 ≤ r) != x).toNat ≤ 1 := by cases (decide (2147483648 ≤ r) != x) <;> simp
  split
  · have := top_xor ‹_› h (b := 2197175160) (by omega) (by omega); omega
  · omega

theorem xor_back (a b : Nat) : (a ^^^ b) ^^^ b = a := by rw [Nat.xor_assoc, Nat.xor_self, Nat.xor_zero]

theorem stp_ust {r : Nat} {x : Bool} (h : r < 4294967296) : stp (ust r x) x = r := by
  by_cases ht : 2147483648 ≤ r
  · have hlt := top_xor ht h (b := 2197175160) (by omega) (by omega)
    have eu : ust r x = 2 * (r ^^^ 2197175160) + (!x).toNat := by unfold ust; rw [if_pos ht]; simp [ht]
    rw [eu]
    have hb := xor_back r 2197175160
    generalize r ^^^ 2197175160 = y at *
    unfold stp
    cases x
    · have e1 : (2 * y + (!false).toNat) / 2 = y := by simp; omega
      have e2 : (2 * y + (!false).toNat) % 2 = 1 := by simp
      rw [e1, e2]; simpa using hb
    · have e1 : (2 * y + (!true).toNat) / 2 = y := by simp
      have e2 : (2 * y + (!true).toNat) % 2 = 0 := by simp
      rw [e1, e2]; simpa using hb
  · have eu : ust r x = 2 * r + x.toNat := by unfold ust; rw [if_neg ht]; simp [ht]
    rw [eu]
    unfold stp
    cases x
    · have e1 : (2 * r + false.toNat) / 2 = r := by simp
      have e2 : (2 * r + false.toNat) % 2 = 0 := by simp
      rw [e1, e2]; simp
    · have e1 : (2 * r + true.toNat) / 2 = r := by simp; omega
      have e2 : (2 * r + true.toNat) % 2 = 1 := by simp
      rw [e1, e2]; simp

theorem ust_stp {r : Nat} {x : Bool} (h : r < 4294967296) : ust (stp r x) x = r := by
  by_cases hc : ((r % 2 == 1) != x) = true
  · have es : stp r x = r / 2 ^^^ 2197175160 := by unfold stp; rw [if_pos hc]
    have ht := top_xor' (a := r / 2) (b := 2197175160) (by omega) (by omega) (by omega)
    rw [es]
    have hb := xor_back (r / 2) 2197175160
    generalize r / 2 ^^^ 2197175160 = y at *
    unfold ust
    rw [if_pos ht, hb]
    have h2 : r % 2 = 0 ∨ r % 2 = 1 := by omega
    rcases h2 with e | e <;> cases x <;> simp [e] at hc <;> simp [ht] <;> omega
  · have es : stp r x = r / 2 := by unfold stp; rw [if_neg hc, Nat.xor_zero]
    rw [es]
    have e : (r % 2 == 1) = x := by simpa using hc
    subst e
    have ht : ¬ 2147483648 ≤ r / 2 := by omega
    unfold ust
    rw [if_neg ht]
    have h2 : r % 2 = 0 ∨ r % 2 = 1 := by omega
    rcases h2 with e | e <;> simp [e, ht] <;> omega

/-- The steps of the n bits of a row, back: the last k of them. -/
def urun (f : Nat → Bool) (n r : Nat) : Nat → Nat
  | 0 => r
  | k + 1 => ust (urun f n r k) (f (n - 1 - k))

theorem urun_lt {f : Nat → Bool} {n r : Nat} (h : r < 4294967296) : ∀ k, urun f n r k < 4294967296
  | 0 => h
  | k + 1 => ust_lt (urun_lt h k)

theorem run_urun {f : Nat → Bool} {n r : Nat} (h : r < 4294967296) : run f (urun f n r n) n = r := by
  have key : ∀ k, k ≤ n → run f (urun f n r n) k = urun f n r (n - k) := by
    intro k
    induction k with
    | zero => intro _; rfl
    | succ k ih =>
      intro hk
      show stp (run f (urun f n r n) k) (f k) = _
      rw [ih (by omega)]
      have e : n - k = (n - (k + 1)) + 1 := by omega
      rw [e]
      show stp (ust (urun f n r (n - (k + 1))) (f (n - 1 - (n - (k + 1))))) (f k) = _
      rw [show n - 1 - (n - (k + 1)) = k from by omega]
      exact stp_ust (urun_lt h _)
  have := key n (Nat.le_refl _)
  rw [Nat.sub_self] at this
  exact this

theorem urun_run {f : Nat → Bool} {n r : Nat} (h : r < 4294967296) : urun f n (run f r n) n = r := by
  have key : ∀ k, k ≤ n → urun f n (run f r n) k = run f r (n - k) := by
    intro k
    induction k with
    | zero => intro _; rfl
    | succ k ih =>
      intro hk
      show ust (urun f n (run f r n) k) (f (n - 1 - k)) = _
      rw [ih (by omega)]
      have e : n - k = (n - (k + 1)) + 1 := by omega
      rw [e]
      show ust (stp (run f r (n - (k + 1))) (f (n - (k + 1)))) (f (n - 1 - k)) = _
      rw [show n - 1 - k = n - (k + 1) from by omega]
      exact ust_stp (run_lt h _)
  have := key n (Nat.le_refl _)
  rw [Nat.sub_self] at this
  exact this

/-- A register, stepped with its own bits, is shifted out. -/
theorem run_self (d : Nat) : ∀ k, run (fun i => d.testBit i) d k = d / 2 ^ k
  | 0 => by simp [run]
  | k + 1 => by
    show stp _ _ = _
    rw [run_self d k]
    unfold stp
    have e : (d / 2 ^ k % 2 == 1) = d.testBit k := by rw [Nat.testBit_eq_decide_div_mod_eq]; rfl
    rw [e]
    simp [Nat.div_div_eq_div_mul, Nat.pow_succ]

theorem run_word {r r' v v' : Nat} (hr : r < 4294967296) (hr' : r' < 4294967296) (h : r ^^^ r' = v ^^^ v') : run (fun i => v.testBit i) r 32 = run (fun i => v'.testBit i) r' 32 := by
  apply xor_eq_zero
  rw [run_xor, h]
  have e : (fun i => v.testBit i != v'.testBit i) = fun i => (v ^^^ v').testBit i := by funext i; rw [Nat.testBit_xor]
  rw [e, run_self, ← h]
  have := Nat.xor_lt_two_pow (n := 32) hr hr'
  exact Nat.div_eq_of_lt this

/-- Bit number p of these bytes. -/
def bitAt (zs : List Int) (p : Nat) : Bool := (zs[p / 8]?.getD 0).toNat.testBit (p % 8)

/-- The sum of these bytes behind a sum. -/
def ext (s : Nat) (zs : List Int) : Nat := run (bitAt zs) (s ^^^ 4294967295) (8 * zs.length) ^^^ 4294967295

theorem ext_lt {s : Nat} (zs : List Int) (h : s < 4294967296) : ext s zs < 4294967296 :=
  Nat.xor_lt_two_pow (n := 32) (run_lt (Nat.xor_lt_two_pow (n := 32) h (by omega)) _) (by omega)

theorem bitAt_left (as bs : List Int) (p : Nat) (h : p < 8 * as.length) : bitAt (as ++ bs) p = bitAt as p := by
  unfold bitAt; rw [List.getElem?_append_left (by omega)]
theorem bitAt_right (as bs : List Int) (p : Nat) : bitAt (as ++ bs) (8 * as.length + p) = bitAt bs p := by
  unfold bitAt
  rw [List.getElem?_append_right (by omega), show (8 * as.length + p) / 8 - as.length = p / 8 from by omega, show (8 * as.length + p) % 8 = p % 8 from by omega]

theorem ext_append (s : Nat) (as bs : List Int) : ext s (as ++ bs) = ext (ext s as) bs := by
  unfold ext
  rw [xor_back, List.length_append, Nat.mul_add, run_add]
  have e1 : run (bitAt (as ++ bs)) (s ^^^ 4294967295) (8 * as.length) = run (bitAt as) (s ^^^ 4294967295) (8 * as.length) := run_congr (fun i hi => bitAt_left as bs i hi)
  have e2 : (fun i => bitAt (as ++ bs) (8 * as.length + i)) = bitAt bs := by funext i; exact bitAt_right as bs i
  rw [e1, e2]
theorem ext_nil (s : Nat) : ext s [] = s := by unfold ext; simp [run, xor_back]
end Go.Proofs.Ytinkelehdmlmfaa
