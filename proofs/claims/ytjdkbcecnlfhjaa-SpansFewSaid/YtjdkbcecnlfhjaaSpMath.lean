/-
  The mathematics of a set of numbers beyond a base, program apart: which distances are in, as a function; shifts, runs, gaps, the count and the last one.
-/
import Derived.Below
namespace Go.Proofs.Ytjdkbcecnlfhjaa
set_option linter.unusedVariables false

/-- How far x is beyond a base. -/
def dist (base x : Int) : Nat := ((x - base) % 4294967296).toNat
/-- No distance but those from 1 to 4096 is in. -/
def Sup (f : Nat → Bool) : Prop := ∀ d, f d = true → 1 ≤ d ∧ d ≤ 4096
def none0 : Nat → Bool := fun _ => false
def ins (f : Nat → Bool) (d : Nat) : Nat → Bool := fun k => f k || k == d
def shf (n : Nat) (f : Nat → Bool) : Nat → Bool := fun k => decide (1 ≤ k) && f (k + n)
def cntTo (f : Nat → Bool) : Nat → Nat
  | 0 => 0
  | k + 1 => cntTo f k + if f (k + 1) = true then 1 else 0
def cnt (f : Nat → Bool) : Nat := cntTo f 4096
theorem cntTo_succ (f : Nat → Bool) (k : Nat) : cntTo f (k + 1) = cntTo f k + if f (k + 1) = true then 1 else 0 := rfl

theorem Sup.none0 : Sup none0 := fun d h => by simp [Go.Proofs.Ytjdkbcecnlfhjaa.none0] at h
theorem Sup.zero {f : Nat → Bool} (h : Sup f) : f 0 = false := by
  cases e : f 0
  · rfl
  · have := h 0 e; omega
theorem Sup.far {f : Nat → Bool} (h : Sup f) {d : Nat} (hd : 4096 < d) : f d = false := by
  cases e : f d
  · rfl
  · have := h d e; omega
theorem Sup.ins {f : Nat → Bool} (h : Sup f) {d : Nat} (h1 : 1 ≤ d) (h2 : d ≤ 4096) : Sup (ins f d) := by
  intro k hk
  simp [Go.Proofs.Ytjdkbcecnlfhjaa.ins] at hk
  rcases hk with hk | hk
  · exact h k hk
  · omega
theorem Sup.shf {f : Nat → Bool} (h : Sup f) (n : Nat) : Sup (shf n f) := by
  intro k hk
  simp [Go.Proofs.Ytjdkbcecnlfhjaa.shf] at hk
  have := h _ hk.2
  omega
theorem shf_zero {f : Nat → Bool} (h : Sup f) : shf 0 f = f := by
  funext k
  unfold shf
  cases k with
  | zero => simp [h.zero]
  | succ k => simp
theorem shf_shf (f : Nat → Bool) (n : Nat) : shf 1 (shf n f) = shf (n + 1) f := by
  funext k
  unfold shf
  rw [show k + 1 + n = k + (n + 1) by omega]
  simp
theorem shf_at (f : Nat → Bool) (n k : Nat) (h : 1 ≤ k) : shf n f k = f (k + n) := by unfold shf; simp [h]

theorem cntTo_ins (f : Nat → Bool) (d : Nat) (h0 : f d = false) (h1 : 1 ≤ d) (k : Nat) : cntTo (ins f d) k = cntTo f k + if d ≤ k then 1 else 0 := by
  induction k with
  | zero => rw [if_neg (by omega)]; rfl
  | succ k ih =>
    rw [cntTo_succ, cntTo_succ, ih]
    by_cases e : k + 1 = d
    · subst e
      have e1 : ins f (k + 1) (k + 1) = true := by simp [ins]
      rw [if_neg (by omega), if_pos e1, h0]
      simp
    · have e1 : ins f d (k + 1) = f (k + 1) := by simp [ins, e]
      rw [e1]
      generalize (if f (k + 1) = true then 1 else 0) = g
      by_cases hd : d ≤ k
      · rw [if_pos hd, if_pos (by omega)]; omega
      · rw [if_neg hd, if_neg (by omega)]; omega
theorem cnt_ins {f : Nat → Bool} {d : Nat} (h0 : f d = false) (h1 : 1 ≤ d) (h2 : d ≤ 4096) : cnt (ins f d) = cnt f + 1 := by
  unfold cnt
  rw [cntTo_ins f d h0 h1, if_pos h2]
theorem cntTo_shf (f : Nat → Bool) (k : Nat) : cntTo (shf 1 f) k + (if f 1 = true then 1 else 0) = cntTo f (k + 1) := by
  induction k with
  | zero => simp [cntTo]
  | succ k ih =>
    have e : cntTo (shf 1 f) (k + 1) = cntTo (shf 1 f) k + if shf 1 f (k + 1) = true then 1 else 0 := rfl
    have e2 : cntTo f (k + 1 + 1) = cntTo f (k + 1) + if f (k + 1 + 1) = true then 1 else 0 := rfl
    rw [e, e2, ← ih, shf_at f 1 (k + 1) (by omega)]
    omega
theorem cnt_shf {f : Nat → Bool} (h : Sup f) : cnt (shf 1 f) + (if f 1 = true then 1 else 0) = cnt f := by
  unfold cnt
  rw [cntTo_shf]
  show cntTo f 4096 + (if f 4097 = true then 1 else 0) = cntTo f 4096
  rw [h.far (by omega)]
  simp
theorem cntTo_none0 (k : Nat) : cntTo none0 k = 0 := by
  induction k with
  | zero => rfl
  | succ k ih => rw [cntTo_succ, ih]; rfl
theorem cnt_none0 : cnt none0 = 0 := cntTo_none0 _
theorem cntTo_le (f : Nat → Bool) (k : Nat) : cntTo f k ≤ k := by
  induction k with
  | zero => exact Nat.le_refl _
  | succ k ih => rw [cntTo_succ]; split <;> omega
theorem cnt_le (f : Nat → Bool) : cnt f ≤ 4096 := cntTo_le f 4096
theorem cntTo_pass (f : Nat → Bool) (a b : Nat) (hab : a ≤ b) (h : ∀ d, a < d → d ≤ b → f d = false) : cntTo f b = cntTo f a := by
  induction b with
  | zero => obtain rfl : a = 0 := by omega
            rfl
  | succ b ih =>
    by_cases e : a = b + 1
    · rw [e]
    · rw [cntTo_succ, h (b + 1) (by omega) (Nat.le_refl _), ih (by omega) (fun d h1 h2 => h d h1 (by omega))]
      simp
theorem cntTo_run (f : Nat → Bool) (a b : Nat) (hab : a ≤ b) (h : ∀ d, a < d → d ≤ b → f d = true) : cntTo f b = cntTo f a + (b - a) := by
  induction b with
  | zero => obtain rfl : a = 0 := by omega
            simp
  | succ b ih =>
    by_cases e : a = b + 1
    · rw [e]; simp
    · rw [cntTo_succ, if_pos (h (b + 1) (by omega) (Nat.le_refl _)), ih (by omega) (fun d h1 h2 => h d h1 (by omega))]
      omega

/-- The n distances from 1 on are in, and the next one is not. -/
def Run (f : Nat → Bool) (n : Nat) : Prop := (∀ k, 1 ≤ k → k ≤ n → f k = true) ∧ f (n + 1) = false
theorem Run.unique {f : Nat → Bool} {n m : Nat} (h : Run f n) (k : Run f m) : n = m := by
  rcases Nat.lt_trichotomy n m with e | e | e
  · have := k.1 (n + 1) (by omega) (by omega); rw [h.2] at this; cases this
  · exact e
  · have := h.1 (m + 1) (by omega) (by omega); rw [k.2] at this; cases this
theorem Run.le {f : Nat → Bool} {n : Nat} (h : Run f n) (hs : Sup f) : n ≤ 4096 := by
  by_cases e : n = 0
  · omega
  · exact (hs n (h.1 n (by omega) (Nat.le_refl _))).2

/-- The greatest distance that is in, or 0. -/
def Lst (f : Nat → Bool) (m : Nat) : Prop := (m = 0 ∨ f m = true) ∧ ∀ d, f d = true → d ≤ m
theorem Lst.unique {f : Nat → Bool} {n m : Nat} (hs : Sup f) (h : Lst f n) (k : Lst f m) : n = m := by
  have h1 : n ≤ m := by
    rcases h.1 with e | e
    · omega
    · exact k.2 n e
  have h2 : m ≤ n := by
    rcases k.1 with e | e
    · omega
    · exact h.2 m e
  omega
theorem Lst.le {f : Nat → Bool} {m : Nat} (h : Lst f m) (hs : Sup f) : m ≤ 4096 := by
  rcases h.1 with e | e
  · omega
  · exact (hs m e).2

/-- L are the runs of what is in, from lo on, in their order. -/
def IsGaps (f : Nat → Bool) : Nat → List (Nat × Nat) → Prop
  | lo, [] => ∀ d, lo ≤ d → f d = false
  | lo, (a, b) :: L => lo ≤ a ∧ a ≤ b ∧ (∀ d, lo ≤ d → d < a → f d = false) ∧ (∀ d, a ≤ d → d ≤ b → f d = true) ∧ f (b + 1) = false ∧ IsGaps f (b + 2) L

theorem IsGaps.down {f : Nat → Bool} {lo : Nat} {L : List (Nat × Nat)} (h : IsGaps f (lo + 1) L) (h0 : f lo = false) : IsGaps f lo L := by
  match L, h with
  | [], h =>
    intro d hd
    by_cases e : d = lo
    · rw [e]; exact h0
    · exact h d (by omega)
  | (a, b) :: L, ⟨h1, h2, h3, h4, h5, h6⟩ =>
    exact ⟨by omega, h2, fun d hd hda => by
      by_cases e : d = lo
      · rw [e]; exact h0
      · exact h3 d (by omega) hda, h4, h5, h6⟩
theorem IsGaps.up {f : Nat → Bool} {lo : Nat} {L : List (Nat × Nat)} (h : IsGaps f lo L) (h0 : f lo = false) : IsGaps f (lo + 1) L := by
  match L, h with
  | [], h => exact fun d hd => h d (by omega)
  | (a, b) :: L, ⟨h1, h2, h3, h4, h5, h6⟩ =>
    have hne : a ≠ lo := by rintro rfl; have := h4 a (Nat.le_refl _) h2; rw [h0] at this; cases this
    exact ⟨by omega, h2, fun d hd hda => h3 d (by omega) hda, h4, h5, h6⟩
/-- Where lo is in, the first run begins there. -/
theorem IsGaps.first {f : Nat → Bool} {lo : Nat} {L : List (Nat × Nat)} (h : IsGaps f lo L) (h0 : f lo = true) : ∃ b R, L = (lo, b) :: R ∧ lo ≤ b ∧ (∀ d, lo ≤ d → d ≤ b → f d = true) ∧ f (b + 1) = false ∧ IsGaps f (b + 2) R := by
  match L, h with
  | [], h => have := h lo (Nat.le_refl _); rw [h0] at this; cases this
  | (a, b) :: L, ⟨h1, h2, h3, h4, h5, h6⟩ =>
    have : a = lo := by
      by_cases e : a = lo
      · exact e
      · have := h3 lo (Nat.le_refl _) (by omega); rw [h0] at this; cases this
    subst this
    exact ⟨b, L, rfl, h2, h4, h5, h6⟩
theorem IsGaps.done {f : Nat → Bool} {lo : Nat} {L : List (Nat × Nat)} (h : IsGaps f lo L) (h0 : ∀ d, lo ≤ d → f d = false) : L = [] := by
  match L, h with
  | [], _ => rfl
  | (a, b) :: L, ⟨h1, h2, h3, h4, h5, h6⟩ =>
    have := h4 a (Nat.le_refl _) h2; rw [h0 a h1] at this; cases this

theorem run_end (f : Nat → Bool) (hs : Sup f) (lo : Nat) (h0 : f lo = true) : ∃ b, lo ≤ b ∧ (∀ d, lo ≤ d → d ≤ b → f d = true) ∧ f (b + 1) = false := by
  have key : ∀ m lo, 4097 - lo ≤ m → f lo = true → ∃ b, lo ≤ b ∧ (∀ d, lo ≤ d → d ≤ b → f d = true) ∧ f (b + 1) = false := by
    intro m
    induction m with
    | zero => intro lo hm h0; have := hs lo h0; omega
    | succ m ih =>
      intro lo hm h0
      cases e : f (lo + 1)
      · exact ⟨lo, Nat.le_refl _, fun d h1 h2 => by rw [show d = lo by omega]; exact h0, e⟩
      · obtain ⟨b, hb1, hb2, hb3⟩ := ih (lo + 1) (by have := hs lo h0; omega) e
        exact ⟨b, by omega, fun d h1 h2 => by
          by_cases e : d = lo
          · rw [e]; exact h0
          · exact hb2 d (by omega) h2, hb3⟩
  exact key _ lo (Nat.le_refl _) h0

theorem IsGaps.exist (f : Nat → Bool) (hs : Sup f) (lo : Nat) : ∃ L, IsGaps f lo L := by
  have key : ∀ m lo, 4098 - lo ≤ m → ∃ L, IsGaps f lo L := by
    intro m
    induction m with
    | zero => intro lo hm; exact ⟨[], fun d hd => hs.far (by omega)⟩
    | succ m ih =>
      intro lo hm
      by_cases hb : 4097 < lo
      · exact ⟨[], fun d hd => hs.far (by omega)⟩
      cases e : f lo
      · obtain ⟨L, hL⟩ := ih (lo + 1) (by omega)
        exact ⟨L, hL.down e⟩
      · obtain ⟨b, hb1, hb2, hb3⟩ := run_end f hs lo e
        obtain ⟨L, hL⟩ := ih (b + 2) (by omega)
        exact ⟨(lo, b) :: L, Nat.le_refl _, hb1, fun d h1 h2 => by omega, hb2, hb3, hL⟩
  exact key _ lo (Nat.le_refl _)

theorem IsGaps.unique {f : Nat → Bool} {lo : Nat} {L M : List (Nat × Nat)} (h : IsGaps f lo L) (k : IsGaps f lo M) : L = M := by
  induction L generalizing lo M with
  | nil => exact (k.done h).symm
  | cons p L ih =>
    obtain ⟨a, b⟩ := p
    match M, k with
    | [], k => exact h.done k
    | (c, d) :: M, k =>
      have h' := h
      have k' := k
      obtain ⟨h1, h2, h3, h4, h5, h6⟩ := h
      obtain ⟨k1, k2, k3, k4, k5, k6⟩ := k
      have hac : a = c := by
        rcases Nat.lt_trichotomy a c with e | e | e
        · have := k3 a h1 e; rw [h4 a (Nat.le_refl _) h2] at this; cases this
        · exact e
        · have := h3 c k1 e; rw [k4 c (Nat.le_refl _) k2] at this; cases this
      subst hac
      have hbd : b = d := by
        rcases Nat.lt_trichotomy b d with e | e | e
        · have := k4 (b + 1) (by omega) (by omega); rw [h5] at this; cases this
        · exact e
        · have := h4 (d + 1) (by omega) (by omega); rw [k5] at this; cases this
      subst hbd
      rw [ih h6 k6]

/-- How many runs there are: their ends lie two apart. -/
theorem IsGaps.length {f : Nat → Bool} (hs : Sup f) {lo : Nat} {L : List (Nat × Nat)} (h : IsGaps f lo L) : 2 * L.length + lo ≤ 4099 ∨ L = [] := by
  induction L generalizing lo with
  | nil => exact .inr rfl
  | cons p L ih =>
    obtain ⟨a, b⟩ := p
    obtain ⟨h1, h2, h3, h4, h5, h6⟩ := h
    have := hs b (h4 b h2 (Nat.le_refl _))
    refine .inl ?_
    rcases ih h6 with e | e
    · simp only [List.length_cons]; omega
    · subst e; simp; omega
theorem IsGaps.bounds {f : Nat → Bool} (hs : Sup f) {lo : Nat} {L : List (Nat × Nat)} (h : IsGaps f lo L) : ∀ p ∈ L, 1 ≤ p.1 ∧ p.1 ≤ p.2 ∧ p.2 ≤ 4096 := by
  induction L generalizing lo with
  | nil => intro p hp; cases hp
  | cons q L ih =>
    obtain ⟨a, b⟩ := q
    obtain ⟨h1, h2, h3, h4, h5, h6⟩ := h
    intro p hp
    rcases List.mem_cons.1 hp with rfl | hp
    · exact ⟨(hs _ (h4 a (Nat.le_refl _) h2)).1, h2, (hs _ (h4 b h2 (Nat.le_refl _))).2⟩
    · exact ih h6 p hp

theorem dist_lt (base x : Int) : dist base x < 4294967296 := by unfold dist; omega
theorem dist_self (base : Int) : dist base base = 0 := by unfold dist; simp
theorem dist_step (base x : Int) : dist ((base + 1) % 4294967296) x = if dist base x = 0 then 4294967295 else dist base x - 1 := by
  unfold dist
  split <;> omega
theorem dist_add (base : Int) (d : Nat) (h : d < 4294967296) : dist base ((base + d) % 4294967296) = d := by unfold dist; omega
theorem dist_addI (base y : Int) (h : 0 ≤ y ∧ y < 4294967296) : dist base ((base + y) % 4294967296) = y.toNat := by unfold dist; omega
theorem dist_inj {base x y : Int} (hx : 0 ≤ x ∧ x < 4294967296) (hy : 0 ≤ y ∧ y < 4294967296) (h : dist base x = dist base y) : x = y := by unfold dist at h; omega
/-- The step of the base, at each number. -/
theorem shf_dist {f : Nat → Bool} (h : Sup f) (base x : Int) : shf 1 f (dist ((base + 1) % 4294967296) x) = (decide (dist base x ≠ 1) && f (dist base x)) := by
  rw [dist_step]
  by_cases e : dist base x = 0
  · rw [if_pos e, e, h.zero]
    have : shf 1 f 4294967295 = false := (h.shf 1).far (by omega)
    rw [this]; simp
  · rw [if_neg e]
    by_cases e1 : dist base x = 1
    · rw [e1]; simp [shf]
    · rw [shf_at _ _ _ (by omega), show dist base x - 1 + 1 = dist base x by omega]
      simp [e1]
end Go.Proofs.Ytjdkbcecnlfhjaa
