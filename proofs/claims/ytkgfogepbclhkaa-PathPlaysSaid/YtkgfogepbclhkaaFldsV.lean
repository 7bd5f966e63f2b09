/-
  A struct of integers, strings and bools that came in by value, of whatever length: its cells, one by one. Program apart.
-/
import Derived.Test.YtkgfogepbclhkaaFlds
import Derived.ProofKit
import Derived.OpenShut
import Derived.ChangeOld
namespace Go.Proofs.Ytkgfogepbclhkaa
open Go.ChangeShapes Go.WideShapes Go.Deep Go.RowKit
set_option linter.unusedVariables false

/-- These cells are of these kinds, one by one. -/
def CellsF : List FK → List Value → Prop
  | [], [] => True
  | k :: ks, v :: vs => CellF k v ∧ CellsF ks vs
  | _, _ => False
theorem cellsF_cons {k : FK} {ks : List FK} {cs : List Value} (h : CellsF (k :: ks) cs) : ∃ v vs, cs = v :: vs ∧ CellF k v ∧ CellsF ks vs := by
  cases cs with
  | nil => exact h.elim
  | cons v vs => exact ⟨v, vs, rfl, h.1, h.2⟩
theorem cellsF_nil {cs : List Value} (h : CellsF [] cs) : cs = [] := by
  cases cs with
  | nil => rfl
  | cons v vs => exact h.elim
theorem cellsF_of : ∀ (ks : List FK) (cs : List Value), cs.length = ks.length → (∀ (j : Nat) k, ks[j]? = some k → ∃ v, cs[j]? = some v ∧ CellF k v) → CellsF ks cs
  | [], [], _, _ => trivial
  | k :: ks, v :: vs, hl, h => by
    refine ⟨?_, cellsF_of ks vs (by simpa using hl) fun j k' hk => ?_⟩
    · obtain ⟨v', h1, h2⟩ := h 0 k rfl
      cases h1; exact h2
    · obtain ⟨v', h1, h2⟩ := h (j + 1) k' (by simpa using hk)
      exact ⟨v', by simpa using h1, h2⟩
section
variable {H : Type} {enc : TypeId × Value → H} {P : Program} {w : World} {base : Nat} {spare : Nat → Bool} {held : Bool}
theorem open_flds {r : Reach} {b0 : Nat} {t : TypeId} {fs : Array Field} (ks : List FK) {v : Value} {d : DataW H} {p : List MemPlace} (hs : P.underlying t = some (.struct fs)) (hone : oneCellFields P fs = true) (hC : P.cellsOf t = ks.length)
    (hks : fldsB P fs ks = true) (hv : Value.okWide P w r b0 t v) (h : DataW.Trod enc P w base spare held t v d p) : ∃ cs : List Value, v = .agg cs.toArray ∧ CellsF ks cs := by
  obtain ⟨cs, rfl, hsz⟩ := okWide_struct hs hv
  refine ⟨cs.toList, by simp, cellsF_of _ _ (by rw [Array.length_toList, hsz, hC]) fun j k hk => ?_⟩
  obtain ⟨fuel, ht⟩ := h
  have ht' : DataW.trod enc P w base spare held fuel t cs.toList = some (d, p) := ht
  obtain ⟨f, hf, hu⟩ := fldsB_at hks j k hk
  have hj : j < ks.length := (List.getElem?_eq_some_iff.1 hk).1
  obtain ⟨ys, n', _, _, _, hlen, hfld⟩ := DataW.trod_struct hs ht'
  obtain ⟨ho, h1⟩ := hone_of hone j f hf
  have h2 := hfld j f hf
  rw [ho, h1] at h2
  have hjc : j < cs.toList.length := by rw [Array.length_toList, hsz, hC]; exact hj
  have h3 : (cs.toList.drop j).take 1 = [cs.toList[j]] := by
    rw [List.drop_eq_getElem_cons hjc]; rfl
  rw [h3] at h2
  cases hy : DataW.trod enc P w base spare held n' f.type [cs.toList[j]] with
  | none =>
    rw [hy] at h2
    have : j < ys.length := by have := (Array.getElem?_eq_some_iff.1 hf).1; omega
    simp [this] at h2
  | some y =>
    refine ⟨cs.toList[j], List.getElem?_eq_getElem hjc, ?_⟩
    rcases hu with ⟨k', rfl, hu⟩ | ⟨rfl, hu⟩ | ⟨rfl, hu⟩
    · obtain ⟨z, hz, _, hw⟩ := DataW.trod_int hu hy
      exact ⟨z, by simpa using hz, hw⟩
    · obtain ⟨s, hz, _, hw⟩ := DataW.trod_string hu hy
      exact ⟨s, by simpa using hz, hw⟩
    · obtain ⟨b, hz, _⟩ := DataW.trod_bool hu hy
      exact ⟨b, by simpa using hz⟩
end
end Go.Proofs.Ytkgfogepbclhkaa
