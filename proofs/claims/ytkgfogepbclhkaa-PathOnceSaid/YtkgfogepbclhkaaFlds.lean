/-
  A slice of structs of integers, strings and bools that came in: its cells, element by element, field by field. Program apart.
-/
import Derived.Test.YtkgfogepbclhkaaStructs
namespace Go.Proofs.Ytkgfogepbclhkaa
open Go.ChangeShapes Go.WideShapes Go.Deep Go.RowKit
set_option linter.unusedVariables false

/-- What a field may be. -/
inductive FK where
  | int (k : IntKind)
  | str
  | bool
deriving DecidableEq

section
variable {H : Type} {enc : TypeId × Value → H} {P : Program} {w : World} {base : Nat} {spare : Nat → Bool} {held : Bool}
/-- These fields are of these kinds. -/
def fldsB (P : Program) (fs : Array Field) (ks : List FK) : Bool := decide (fs.size = ks.length) && (List.range fs.size).all fun j => match fs[j]?, ks[j]? with
  | some f, some k => match P.underlying f.type with
    | some (.int k') => decide (k = .int k')
    | some .string => decide (k = .str)
    | some .bool => decide (k = .bool)
    | _ => false
  | _, _ => false
theorem fldsB_at {fs : Array Field} {ks : List FK} (h : fldsB P fs ks = true) (j : Nat) (k : FK) (hk : ks[j]? = some k) : ∃ f, fs[j]? = some f ∧ ((∃ k', k = .int k' ∧ P.underlying f.type = some (.int k')) ∨ (k = .str ∧ P.underlying f.type = some .string) ∨ (k = .bool ∧ P.underlying f.type = some .bool)) := by
  unfold fldsB at h
  rw [Bool.and_eq_true, decide_eq_true_eq] at h
  have hj : j < ks.length := (List.getElem?_eq_some_iff.1 hk).1
  have h2 := List.all_eq_true.1 h.2 j (List.mem_range.2 (by omega))
  cases hf : fs[j]? with
  | none => simp [hf] at h2
  | some f =>
    simp only [hf, hk] at h2
    refine ⟨f, rfl, ?_⟩
    cases hu : P.underlying f.type with
    | none => simp [hu] at h2
    | some d =>
      cases d <;> simp [hu] at h2
      all_goals first
        | exact .inl ⟨_, h2, rfl⟩
        | exact .inr (.inl ⟨h2, rfl⟩)
        | exact .inr (.inr ⟨h2, rfl⟩)

/-- What a cell of this kind holds. -/
def CellF (k : FK) (v : Value) : Prop := match k with
  | .int k => ∃ z, v = .int k z ∧ (Lit.int k z).wf = true
  | .str => ∃ s : ByteArray, v = .string s ∧ s.size ≤ maxLen
  | .bool => ∃ b, v = .bool b

theorem open_flds_structs {t e : TypeId} {fs : Array Field} {ks : List FK} {fuel : Nat} {cs : List Value} {x : DataW H × List MemPlace} (ht : P.underlying t = some (.slice e)) (he : P.underlying e = some (.struct fs))
    (hone : oneCellFields P fs = true) (hC : P.cellsOf e = fs.size) (hks : fldsB P fs ks = true) (h : DataW.trod enc P w base spare held fuel t cs = some x) :
    cs = [.slice none 0 0] ∨ ∃ (a : Addr) (len cap m : Nat), cs = [.slice (some a) len cap] ∧ len ≤ cap ∧ cap ≤ maxLen ∧ len ≤ m ∧
      ∀ i, i < m → ∀ (j : Nat) k, ks[j]? = some k → ∃ v, w.cell? (a.add (i * ks.length + j)) = some v ∧ CellF k v := by
  have hsize : fs.size = ks.length := by
    have := hks
    unfold fldsB at this
    rw [Bool.and_eq_true, decide_eq_true_eq] at this
    exact this.1
  rcases open_slice ht h with h0 | ⟨a, len, cap, m, n, D, Pl, hcs, hb, hl, hm, hmm, hx, hi⟩
  · exact .inl h0.1
  refine .inr ⟨a, len, cap, m, hcs, hl, hm, by rw [hmm]; split <;> omega, fun i him j k hk => ?_⟩
  obtain ⟨cs', hc, ht'⟩ := hi i him
  rw [hC, hsize] at hc
  obtain ⟨_, hlen, hcell⟩ := World.cells?_some hc
  obtain ⟨f, hf, hu⟩ := fldsB_at hks j k hk
  have hj : j < ks.length := (List.getElem?_eq_some_iff.1 hk).1
  obtain ⟨ys, n', _, _, _, _, hfld⟩ := DataW.trod_struct he ht'
  obtain ⟨ho, h1⟩ := hone_of hone j f hf
  have h2 := hfld j f hf
  rw [ho, h1] at h2
  have hjc : j < cs'.length := by omega
  have h3 : (cs'.drop j).take 1 = [cs'[j]] := by
    rw [List.drop_eq_getElem_cons hjc]; rfl
  rw [h3] at h2
  cases hy : DataW.trod enc P w base spare held n' f.type [cs'[j]] with
  | none =>
    rw [hy] at h2
    have : j < ys.length := by have := (Array.getElem?_eq_some_iff.1 hf).1; omega
    simp [this] at h2
  | some y =>
    refine ⟨cs'[j], by rw [← add_add, hcell j hj]; simp [hjc], ?_⟩
    rcases hu with ⟨k', rfl, hu⟩ | ⟨rfl, hu⟩ | ⟨rfl, hu⟩
    · obtain ⟨z, hz, _, hw⟩ := DataW.trod_int hu hy
      exact ⟨z, by simpa using hz, hw⟩
    · obtain ⟨s, hz, _, hw⟩ := DataW.trod_string hu hy
      exact ⟨s, by simpa using hz, hw⟩
    · obtain ⟨b, hz, _⟩ := DataW.trod_bool hu hy
      exact ⟨b, by simpa using hz⟩
end
end Go.Proofs.Ytkgfogepbclhkaa
