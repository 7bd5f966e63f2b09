/-
  A region that draws its order, whose operations' values hang on no order, some of which write no slot (stores); what is so of the world hangs on which operations have run. Program apart.
-/
import Derived.Test.YtkgfogepbclhkaaVals
namespace Go.Proofs.Ytkgfogepbclhkaa.Vals
open Go.RowKit
set_option linter.unusedVariables false
section
variable {P : Program} {md : Region.Mode} {ops : Array Oper} {Q : Exit → Act → World → Prop}

/-- The operations write these slots, or none, in their order. -/
def dstsW (ops : Array Oper) (ds : List (Option Nat)) (n : Nat) : Bool := decide (ops.toList.map (·.dst) = ds) && ds.all (fun d => match d with | some d => decide (d < n) | none => true)

theorem put_none (a : Act) (v : Value) : a.put none v = a := rfl

theorem wpAny_valsW (L : List (Option (Nat × Value))) (ds : List (Option Nat)) (n : Nat) (I : Array Bool → World → Prop) (a0 : Act) (w0 : World) (hn : a0.tmps.size = n)
    (hacyc : acycB md ops = true) (hds : L.map (Option.map (·.1)) = ds) (hdst : dstsW ops ds n = true) (hnd : (ds.filterMap id).Nodup)
    (step : ∀ (i : Nat) o p, ops[i]? = some o → L[i]? = some p → ∀ listed a w, listed.size = ops.size → I listed w → a.defers = a0.defers →
      (∀ e ∈ o.after, Region.binds md e = true → listed.getD e.on false = true ∧ ∀ q, L[e.on]? = some (some q) → a.eval (.tmp q.1) = q.2) → (∀ t, some t ∉ ds → a.eval (.tmp t) = a0.eval (.tmp t)) →
      ∀ K : Act → World → Prop, (∀ w', I (listed.setIfInBounds i true) w' → K (a.put o.dst ((p.map (·.2)).getD undef)) w') → wpOp P ops Q i K a w)
    (fin : ∀ listed w', (∀ i, i < ops.size → listed.getD i false = true) → I listed w' → Q .normal (puts (L.filterMap id) a0) w') (h0 : I (Array.replicate ops.size false) w0) :
    wpAny P md ops Q ops.size (Array.replicate ops.size false) a0 w0 := by
  subst hds
  unfold dstsW at hdst
  rw [Bool.and_eq_true, decide_eq_true_eq] at hdst
  obtain ⟨hd1, hd2⟩ := hdst
  have hlen : L.length = ops.size := by
    have := congrArg List.length hd1
    simpa using this.symm
  have hfm : (L.map (Option.map (·.1))).filterMap id = (L.filterMap id).map (·.1) := by
    rw [List.filterMap_map, List.map_filterMap]
    rfl
  rw [hfm] at hnd
  have hsz : ∀ p ∈ L.filterMap id, p.1 < n := fun p hp => by
    obtain ⟨x, hx, e⟩ := List.mem_filterMap.1 hp
    have := List.all_eq_true.1 hd2 (x.map (·.1)) (List.mem_map.2 ⟨x, hx, rfl⟩)
    simp only [id] at e
    subst e
    simpa using this
  have hop : ∀ (i : Nat) o p, ops[i]? = some o → L[i]? = some p → o.dst = p.map (·.1) := by
    intro i o p ho hp
    have h1 : (ops.toList.map (·.dst))[i]? = some o.dst := by simp [ho]
    have h2 : (L.map (Option.map (·.1)))[i]? = some (p.map (·.1)) := by simp [hp]
    rw [hd1, h2] at h1
    exact (Option.some.inj h1).symm
  have hmemds : ∀ t, some t ∉ L.map (Option.map (·.1)) → t ∉ (L.filterMap id).map (·.1) := by
    intro t ht hm
    obtain ⟨p, hp, rfl⟩ := List.mem_map.1 hm
    obtain ⟨x, hx, e⟩ := List.mem_filterMap.1 hp
    simp only [id] at e
    subst e
    exact ht (List.mem_map.2 ⟨some p, hx, rfl⟩)
  have hdist : ∀ (i j : Nat) p q, L[i]? = some (some p) → L[j]? = some (some q) → p.1 = q.1 → i = j := by
    have key : ∀ (M : List (Option (Nat × Value))), ((M.filterMap id).map (·.1)).Nodup → ∀ (i j : Nat) p q, M[i]? = some (some p) → M[j]? = some (some q) → p.1 = q.1 → i = j := by
      intro M
      induction M with
      | nil => intro _ i j p q h; simp at h
      | cons x M ih =>
        intro hN i j p q hi hj he
        have hin : ∀ (k : Nat) r, M[k]? = some (some r) → r.1 ∈ (M.filterMap id).map (·.1) := fun k r h => List.mem_map.2 ⟨r, List.mem_filterMap.2 ⟨some r, List.mem_of_getElem? h, rfl⟩, rfl⟩
        cases x with
        | none =>
          simp only [List.filterMap_cons, id] at hN
          cases i with
          | zero => simp at hi
          | succ i =>
            cases j with
            | zero => simp at hj
            | succ j => rw [ih hN i j p q (by simpa using hi) (by simpa using hj) he]
        | some y =>
          simp only [List.filterMap_cons, id, List.map_cons, List.nodup_cons] at hN
          cases i with
          | zero =>
            cases j with
            | zero => rfl
            | succ j =>
              simp at hi
              subst hi
              exact absurd (he ▸ hin j q (by simpa using hj)) hN.1
          | succ i =>
            cases j with
            | zero =>
              simp at hj
              subst hj
              exact absurd (he ▸ hin i p (by simpa using hi)) hN.1
            | succ j => rw [ih hN.2 i j p q (by simpa using hi) (by simpa using hj) he]
    exact key L hnd
  refine wpAny_inv (fun listed a w => I listed w ∧ a.tmps.size = n ∧ a.defers = a0.defers ∧ (∀ t, some t ∉ L.map (Option.map (·.1)) → a.eval (.tmp t) = a0.eval (.tmp t)) ∧ ∀ (i : Nat) p, L[i]? = some (some p) → listed.getD i false = true → a.eval (.tmp p.1) = p.2) (acycB_spec hacyc) ?_ ?_ _ _ _ _ (by simp) (by simp) ⟨h0, hn, rfl, fun t _ => rfl, fun i p hp h => ?_⟩
  · rintro listed a w i o ⟨hI, hs, hdf, hfr, hg⟩ hls ho hdeps
    have hi : i < ops.size := (Array.getElem?_eq_some_iff.1 ho).1
    have hp : L[i]? = some (L[i]'(by omega)) := List.getElem?_eq_getElem (by omega)
    generalize L[i]'(by omega) = p at hp
    have hmem : p ∈ L := List.mem_of_getElem? hp
    refine step i o p ho hp listed a w hls hI hdf (fun e he hb => ⟨hdeps e he hb, fun q hq => hg e.on q hq (hdeps e he hb)⟩) hfr _ ?_
    intro w' hI'
    rw [hop i o p ho hp]
    cases p with
    | none =>
      refine ⟨hI', hs, hdf, hfr, fun j q hj hlj => ?_⟩
      have hji : j ≠ i := fun e => by subst e; rw [hp] at hj; cases hj
      refine hg j q hj ?_
      rwa [getD_set_ne false (fun h => hji h.symm)] at hlj
    | some p =>
      have hmem2 : p ∈ L.filterMap id := List.mem_filterMap.2 ⟨some p, hmem, rfl⟩
      refine ⟨hI', by simpa [Act.put] using hs, hdf, fun t ht => ?_, fun j q hj hlj => ?_⟩
      · show (a.put (some p.1) p.2).eval (.tmp t) = _
        rw [eval_put_far _ _ _ _ (fun e => ht (List.mem_map.2 ⟨some p, hmem, by rw [e]; rfl⟩))]
        exact hfr t ht
      · show (a.put (some p.1) p.2).eval (.tmp q.1) = _
        by_cases e : j = i
        · subst e
          rw [hp] at hj
          cases hj
          exact eval_put_self _ _ _ (by have := hsz p hmem2; omega)
        · rw [eval_put_far _ _ _ _ (fun e' => e (hdist j i q p hj hp e'))]
          refine hg j q hj ?_
          rwa [getD_set_ne false (fun h => e h.symm)] at hlj
  · rintro listed a w ⟨hI, hs, hdf, hfr, hg⟩ hall
    have : a = puts (L.filterMap id) a0 := by
      refine act_ext (by rw [puts_size, hs, hn]) (by rw [puts_defers, hdf]) (fun t ht => ?_)
      by_cases hm : some t ∈ L.map (Option.map (·.1))
      · obtain ⟨x, hx, e⟩ := List.mem_map.1 hm
        cases x with
        | none => cases e
        | some p =>
          obtain rfl : p.1 = t := Option.some.inj e
          rw [puts_in _ a0 hnd (fun q hq => by have := hsz q hq; omega) p (List.mem_filterMap.2 ⟨some p, hx, rfl⟩)]
          obtain ⟨i, hi⟩ := List.mem_iff_getElem?.1 hx
          exact hg i p hi (hall i (by have := (List.getElem?_eq_some_iff.1 hi).1; omega))
      · rw [puts_far _ a0 t (hmemds t hm)]
        exact hfr t hm
    rw [this]
    exact fin listed w hall hI
  · have : i < ops.size := by have := (List.getElem?_eq_some_iff.1 hp).1; omega
    simp [this] at h

/-- The last operation, that writes no slot: all others have run when those that it waits for have. -/
theorem getD_set_last {l : Array Bool} {i : Nat} (h : i < l.size) : (l.setIfInBounds i true).getD i false = true := by simp [h]
theorem getD_set_other {l : Array Bool} {i j : Nat} (h : i ≠ j) : (l.setIfInBounds i true).getD j false = l.getD j false := getD_set_ne false h
end
end Go.Proofs.Ytkgfogepbclhkaa.Vals
