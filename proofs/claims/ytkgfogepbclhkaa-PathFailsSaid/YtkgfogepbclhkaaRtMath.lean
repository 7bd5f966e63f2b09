/-
  Package rto, what is reckoned: the smoothed time, its variation, the value. Program apart.
-/
namespace Go.Proofs.Ytkgfogepbclhkaa

/-- A number within its bounds. -/
def lim (x lo hi : Int) : Int := min (max x lo) hi
/-- Eight times the smoothed time behind a sample. -/
def nS (any : Bool) (S t : Int) : Int := if any then S - S / 8 + t else 8 * t
/-- Four times the variation behind a sample. -/
def nV (any : Bool) (S V t : Int) : Int := if any then V - V / 4 + (max (S / 8) t - min (S / 8) t) else 2 * t
/-- The value behind a sample. -/
def nX (S V lo hi : Int) : Int := lim (S / 8 + max 1 V) lo hi

/-- What is so of each estimator. -/
structure Good (x lo hi : Int) (any : Bool) (S V : Int) : Prop where
  l1 : 1 ≤ lo
  lx : lo ≤ x
  xh : x ≤ hi
  hm : hi ≤ 1048576
  s0 : 0 ≤ S
  s1 : S ≤ 8388615
  v0 : 0 ≤ V
  v1 : V ≤ 4194307

theorem lim_in {x lo hi : Int} (h : lo ≤ hi) : lo ≤ lim x lo hi ∧ lim x lo hi ≤ hi := by unfold lim; omega
theorem Good.sample {x lo hi : Int} {any : Bool} {S V : Int} (h : Good x lo hi any S V) {t : Int} (h0 : 0 ≤ t) (h1 : t ≤ 1048576) :
    Good (nX (nS any S t) (nV any S V t) lo hi) lo hi true (nS any S t) (nV any S V t) := by
  obtain ⟨a1, a2, a3, a4, a5, a6, a7, a8⟩ := h
  have hx := lim_in (x := nS any S t / 8 + max 1 (nV any S V t)) (lo := lo) (hi := hi) (by omega)
  refine ⟨a1, hx.1, hx.2, a4, ?_, ?_, ?_, ?_⟩
  all_goals (cases any <;> simp only [nS, nV, Bool.false_eq_true, if_false, if_true] <;> omega)
theorem Good.back {x lo hi : Int} {any : Bool} {S V : Int} (h : Good x lo hi any S V) : Good (min (2 * x) hi) lo hi any S V := by
  obtain ⟨a1, a2, a3, a4, a5, a6, a7, a8⟩ := h
  exact ⟨a1, by omega, by omega, a4, a5, a6, a7, a8⟩
theorem Good.lim_back {x lo hi : Int} {any : Bool} {S V : Int} (h : Good x lo hi any S V) : lim (2 * x) lo hi = min (2 * x) hi := by
  obtain ⟨a1, a2, a3, a4, a5, a6, a7, a8⟩ := h
  unfold lim
  omega

/-- The numbers that New takes. -/
def takes (first lo hi : Int) : Bool := decide (1 ≤ lo) && decide (lo ≤ first) && decide (first ≤ hi) && decide (hi ≤ 1048576)
theorem takes_iff {first lo hi : Int} : takes first lo hi = true ↔ 1 ≤ lo ∧ lo ≤ first ∧ first ≤ hi ∧ hi ≤ 1048576 := by
  unfold takes
  simp [and_assoc]
theorem takes_good {first lo hi : Int} (h : takes first lo hi = true) : Good first lo hi false 0 0 := by
  obtain ⟨a, b, c, d⟩ := takes_iff.1 h
  exact ⟨a, b, c, d, by omega, by omega, by omega, by omega⟩
end Go.Proofs.Ytkgfogepbclhkaa
