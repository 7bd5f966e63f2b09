/-
  A slice of structs of integers that came in: its cells, element by element, field by field. Program apart.
-/
import Derived.Test.YtkgfogepbclhkaaFrame
import Derived.Deep.Slices
import Derived.Deep.Fields
import Derived.ChangeSame
namespace Go.Proofs.Ytkgfogepbclhkaa
open Go.ChangeShapes Go.WideShapes Go.Deep Go.RowKit
set_option linter.unusedVariables false

section
variable {H : Type} {enc : TypeId × Value → H} {P : Program} {w : World} {base : Nat} {spare : Nat → Bool} {held : Bool}
/-- These fields are integers of these kinds. -/
def kindsB (P : Program) (fs : Array Field) (ks : List IntKind) : Bool := decide (fs.size = ks.length) && (List.range fs.size).all fun j => match fs[j]?, ks[j]? with
  | some f, some k => match P.underlying f.type with
    | some (.int k') => decide (k' = k)
    | _ => false
  | _, _ => false
theorem kindsB_at {fs : Array Field} {ks : List IntKind} (h : kindsB P fs ks = true) (j : Nat) (k : IntKind) (hk : ks[j]? = some k) : ∃ f, fs[j]? = some f ∧ P.underlying f.type = some (.int k) := by
  unfold kindsB at h
  rw [Bool.and_eq_true, decide_eq_true_eq] at h
  have hj : j < ks.length := (List.getElem?_eq_some_iff.1 hk).1
  have h2 := List.all_eq_true.1 h.2 j (List.mem_range.2 (by omega))
  cases hf : fs[j]? with
  | none => simp [hf] at h2
  | some f =>
    simp only [hf, hk] at h2
    refine ⟨f, rfl, ?_⟩
    cases hu : P.underlying f.type with
    | none => simp [hu] at h2
    | some d =>
      cases d <;> simp [hu] at h2
      rw [h2]

theorem open_int_structs {t e : TypeId} {fs : Array Field} {ks : List IntKind} {fuel : Nat} {cs : List Value} {x : DataW H × List MemPlace} (ht : P.underlying t = some (.slice e)) (he : P.underlying e = some (.struct fs))
    (hone : oneCellFields P fs = true) (hC : P.cellsOf e = fs.size) (hks : kindsB P fs ks = true) (h : DataW.trod enc P w base spare held fuel t cs = some x) :
    cs = [.slice none 0 0] ∨ ∃ (a : Addr) (len cap m : Nat), cs = [.slice (some a) len cap] ∧ len ≤ cap ∧ cap ≤ maxLen ∧ len ≤ m ∧
      ∀ i, i < m → ∀ (j : Nat) k, ks[j]? = some k → ∃ z, w.cell? (a.add (i * ks.length + j)) = some (.int k z) ∧ (Lit.int k z).wf = true := by
  have hsize : fs.size = ks.length := by
    have := hks
    unfold kindsB at this
    rw [Bool.and_eq_true, decide_eq_true_eq] at this
    exact this.1
  rcases open_slice ht h with h0 | ⟨a, len, cap, m, n, D, Pl, hcs, hb, hl, hm, hmm, hx, hi⟩
  · exact .inl h0.1
  refine .inr ⟨a, len, cap, m, hcs, hl, hm, by rw [hmm]; split <;> omega, fun i him j k hk => ?_⟩
  obtain ⟨cs', hc, ht'⟩ := hi i him
  rw [hC, hsize] at hc
  obtain ⟨_, hlen, hcell⟩ := World.cells?_some hc
  obtain ⟨f, hf, hu⟩ := kindsB_at hks j k hk
  have hj : j < ks.length := (List.getElem?_eq_some_iff.1 hk).1
  obtain ⟨ys, n', _, _, _, _, hfld⟩ := DataW.trod_struct he ht'
  obtain ⟨ho, h1⟩ := hone_of hone j f hf
  have h2 := hfld j f hf
  rw [ho, h1] at h2
  have hjc : j < cs'.length := by omega
  have h3 : (cs'.drop j).take 1 = [cs'[j]] := by
    rw [List.drop_eq_getElem_cons hjc]; rfl
  rw [h3] at h2
  cases hy : DataW.trod enc P w base spare held n' f.type [cs'[j]] with
  | none =>
    rw [hy] at h2
    have : j < ys.length := by have := (Array.getElem?_eq_some_iff.1 hf).1; omega
    simp [this] at h2
  | some y =>
    obtain ⟨z, hz, _, hw⟩ := DataW.trod_int hu hy
    refine ⟨z, ?_, hw⟩
    rw [← add_add, hcell j hj]
    have : cs'[j] = .int k z := by simpa using hz
    simp [hjc, this]

/-- A word for each element that fits. -/
theorem choose_below {α : Type} [Inhabited α] {p : Nat → α → Prop} : ∀ n, (∀ i, i < n → ∃ x, p i x) → ∃ l : List α, l.length = n ∧ ∀ (i : Nat) x, l[i]? = some x → p i x
  | 0, _ => ⟨[], rfl, fun i x h => by simp at h⟩
  | n + 1, h => by
    obtain ⟨l, hl, hp⟩ := choose_below n (fun i hi => h i (by omega))
    obtain ⟨x, hx⟩ := h n (by omega)
    refine ⟨l ++ [x], by simp [hl], fun i y hy => ?_⟩
    by_cases e : i < n
    · rw [List.getElem?_append_left (by omega)] at hy
      exact hp i y hy
    · have hi : i < (l ++ [x]).length := (List.getElem?_eq_some_iff.1 hy).1
      simp [hl] at hi
      have : i = n := by omega
      subst this
      rw [List.getElem?_append_right (by omega)] at hy
      simp [hl] at hy
      subst hy
      exact hx
end
end Go.Proofs.Ytkgfogepbclhkaa
