/-
  Package window, what is reckoned: what an acknowledgement makes of the size and the part. Program apart.
-/
namespace Go.Proofs.Ytkgfogepbclhkaa

/-- The threshold behind a loss. -/
def wT (mtu size : Int) : Int := max (size / 2) (4 * mtu)
/-- The part with what was acknowledged beyond the threshold. -/
def wQ (most part n : Int) : Int := part + min n most
/-- The size behind an acknowledgement. -/
def akS (mtu most size thr part n : Int) (full : Bool) : Int :=
  if n < 1 then size else min (if size ≤ thr then (if full then size + min n mtu else size) else (if full && decide (size ≤ wQ most part n) then size + mtu else size)) most
/-- The part behind an acknowledgement. -/
def akP (most size thr part n : Int) (full : Bool) : Int :=
  if n < 1 then part else if size ≤ thr then part else (if full && decide (size ≤ wQ most part n) then wQ most part n - size else wQ most part n)

/-- What is so of each window behind at most c acknowledgements. -/
structure WGood (mtu most size thr part : Int) (c : Nat) : Prop where
  m0 : 128 ≤ mtu
  m1 : mtu ≤ 1500
  o0 : 4 * mtu ≤ most
  o1 : most ≤ 16777216
  s0 : mtu ≤ size
  s1 : size ≤ most
  t0 : 4 * mtu ≤ thr
  t1 : thr ≤ most
  p0 : 0 ≤ part
  p1 : part ≤ 16777216 * (c : Int)

theorem WGood.loss {mtu most size thr part : Int} {c : Nat} (h : WGood mtu most size thr part c) : 4 * mtu ≤ wT mtu size ∧ wT mtu size ≤ most := by
  obtain ⟨a1, a2, a3, a4, a5, a6, a7, a8, a9, a10⟩ := h
  unfold wT
  omega
theorem WGood.fast {mtu most size thr part : Int} {c : Nat} (h : WGood mtu most size thr part c) (c' : Nat) : WGood mtu most (min size (wT mtu size)) (wT mtu size) 0 c' := by
  have hl := h.loss
  obtain ⟨a1, a2, a3, a4, a5, a6, a7, a8, a9, a10⟩ := h
  exact ⟨a1, a2, a3, a4, by omega, by omega, hl.1, hl.2, by omega, by omega⟩
theorem WGood.timeout {mtu most size thr part : Int} {c : Nat} (h : WGood mtu most size thr part c) (c' : Nat) : WGood mtu most mtu (wT mtu size) 0 c' := by
  have hl := h.loss
  obtain ⟨a1, a2, a3, a4, a5, a6, a7, a8, a9, a10⟩ := h
  exact ⟨a1, a2, a3, a4, by omega, by omega, hl.1, hl.2, by omega, by omega⟩
theorem WGood.more {mtu most size thr part : Int} {c : Nat} (h : WGood mtu most size thr part c) {c' : Nat} (hc : c ≤ c') : WGood mtu most size thr part c' := by
  obtain ⟨a1, a2, a3, a4, a5, a6, a7, a8, a9, a10⟩ := h
  exact ⟨a1, a2, a3, a4, a5, a6, a7, a8, a9, by omega⟩
theorem WGood.acked {mtu most size thr part : Int} {c : Nat} (h : WGood mtu most size thr part c) (n : Int) (full : Bool) :
    WGood mtu most (akS mtu most size thr part n full) thr (akP most size thr part n full) (c + 1) ∧ size ≤ akS mtu most size thr part n full ∧ akS mtu most size thr part n full ≤ size + mtu ∧ (full = false → akS mtu most size thr part n full = size) := by
  obtain ⟨a1, a2, a3, a4, a5, a6, a7, a8, a9, a10⟩ := h
  by_cases hn : n < 1
  · simp only [akS, akP, if_pos hn]
    exact ⟨⟨a1, a2, a3, a4, a5, a6, a7, a8, a9, by omega⟩, by omega, by omega, by simp⟩
  · by_cases ht : size ≤ thr
    · cases full
      · simp only [akS, akP, if_neg hn, if_pos ht, Bool.false_eq_true, if_false]
        exact ⟨⟨a1, a2, a3, a4, by omega, by omega, a7, a8, a9, by omega⟩, by omega, by omega, fun _ => by omega⟩
      · simp only [akS, akP, if_neg hn, if_pos ht, if_true]
        exact ⟨⟨a1, a2, a3, a4, by omega, by omega, a7, a8, a9, by omega⟩, by omega, by omega, fun h => by cases h⟩
    · have hq : 0 ≤ wQ most part n ∧ wQ most part n ≤ part + most := by unfold wQ; omega
      by_cases hf : (full && decide (size ≤ wQ most part n)) = true
      · simp only [akS, akP, if_neg hn, if_neg ht, if_pos hf]
        simp only [Bool.and_eq_true, decide_eq_true_eq] at hf
        exact ⟨⟨a1, a2, a3, a4, by omega, by omega, a7, a8, by omega, by omega⟩, by omega, by omega, fun h => by rw [h] at hf; exact absurd hf.1 (by decide)⟩
      · simp only [akS, akP, if_neg hn, if_neg ht, if_neg hf]
        exact ⟨⟨a1, a2, a3, a4, by omega, by omega, a7, a8, by omega, by omega⟩, by omega, by omega, fun _ => by omega⟩

/-- The numbers that New takes. -/
def wtakes (mtu most : Int) : Bool := decide (128 ≤ mtu) && decide (mtu ≤ 1500) && decide (4 * mtu ≤ most) && decide (most ≤ 16777216)
theorem wtakes_iff {mtu most : Int} : wtakes mtu most = true ↔ 128 ≤ mtu ∧ mtu ≤ 1500 ∧ 4 * mtu ≤ most ∧ most ≤ 16777216 := by
  unfold wtakes
  simp [and_assoc]
theorem wtakes_good {mtu most : Int} (h : wtakes mtu most = true) (c : Nat) : WGood mtu most (2 * mtu) most 0 c := by
  obtain ⟨a, b, d, e⟩ := wtakes_iff.1 h
  exact ⟨a, b, d, e, by omega, by omega, by omega, by omega, by omega, by omega⟩

/-- What is done with a window: the size, the threshold and the part behind it. -/
def dS (mtu most size thr part kind n : Int) (full : Bool) : Int := if kind = 0 then akS mtu most size thr part n full else if kind = 1 then min size (wT mtu size) else if kind = 2 then mtu else size
def dT (mtu size thr kind : Int) : Int := if kind = 1 ∨ kind = 2 then wT mtu size else thr
def dP (most size thr part kind n : Int) (full : Bool) : Int := if kind = 0 then akP most size thr part n full else if kind = 1 ∨ kind = 2 then 0 else part
theorem WGood.does {mtu most size thr part : Int} {c : Nat} (h : WGood mtu most size thr part c) (kind n : Int) (full : Bool) :
    WGood mtu most (dS mtu most size thr part kind n full) (dT mtu size thr kind) (dP most size thr part kind n full) (c + 1) := by
  unfold dS dT dP
  by_cases k0 : kind = 0
  · have k1 : ¬ (kind = 1 ∨ kind = 2) := by omega
    rw [if_pos k0, if_pos k0, if_neg k1]
    exact (h.acked n full).1
  · by_cases k1 : kind = 1
    · rw [if_neg k0, if_neg k0, if_pos k1, if_pos (.inl k1), if_pos (.inl k1)]
      exact h.fast _
    · by_cases k2 : kind = 2
      · rw [if_neg k0, if_neg k0, if_neg k1, if_pos k2, if_pos (.inr k2), if_pos (.inr k2)]
        exact h.timeout _
      · rw [if_neg k0, if_neg k0, if_neg k1, if_neg k2, if_neg (by omega), if_neg (by omega)]
        exact h.more (by omega)
end Go.Proofs.Ytkgfogepbclhkaa
