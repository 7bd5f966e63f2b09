/-
  A region that draws its order, by what each of its operations leaves behind: a slot that an operation writes may be read by those ahead of it. Program apart.
-/
import Derived.Test.YtlihcckgnnnekaaGoodL
namespace Go.Proofs.Ytlihcckgnnnekaa.Vals
open Go.RowKit
set_option linter.unusedVariables false
section
variable {P : Program} {md : Region.Mode} {ops : Array Oper} {Q : Exit → Act → World → Prop}

theorem wpAny_goodF (G : Nat → Value → World → Prop) (J : Array Bool → World → Prop) (ds : List (Option Nat)) (n : Nat) (a0 : Act) (w0 : World) (hn : a0.tmps.size = n)
    (hacyc : acycB md ops = true) (hdst : dstsW ops ds n = true) (hnd : (ds.filterMap id).Nodup)
    (step : ∀ (i : Nat) o d, ops[i]? = some o → ds[i]? = some d → ∀ listed a w, listed.size = ops.size → listed.getD i true = false →
      (∀ (j : Nat) o', ops[j]? = some o' → listed.getD j false = true → ∀ e ∈ o'.after, Region.binds md e = true → listed.getD e.on false = true) → J listed w → a.defers = a0.defers →
      (∀ e ∈ o.after, Region.binds md e = true → listed.getD e.on false = true ∧ ∀ s, ds[e.on]? = some (some s) → G e.on (a.eval (.tmp s)) w) → (∀ t, (∀ (q : Nat), ds[q]? = some (some t) → listed.getD q false = false) → a.eval (.tmp t) = a0.eval (.tmp t)) →
      ∀ K : Act → World → Prop, (∀ v w', (∀ j x, G j x w → G j x w') → J (listed.setIfInBounds i true) w' → (d.isSome = true → G i v w') → K (a.put o.dst v) w') → wpOp P ops Q i K a w)
    (fin : ∀ listed w' f, (∀ i, i < ops.size → listed.getD i false = true) → J listed w' → (∀ (i s : Nat), ds[i]? = some (some s) → G i (f s) w') → Q .normal (puts (pairs ds f) a0) w') (h0 : J (Array.replicate ops.size false) w0) :
    wpAny P md ops Q ops.size (Array.replicate ops.size false) a0 w0 := by
  obtain ⟨hlen, hop, hlt⟩ := dstsW_at hdst
  have hinj := filterMap_inj hnd
  refine wpAny_inv2 (fun listed a w => (∀ (j : Nat) o', ops[j]? = some o' → listed.getD j false = true → ∀ e ∈ o'.after, Region.binds md e = true → listed.getD e.on false = true) ∧ J listed w ∧ a.tmps.size = n ∧ a.defers = a0.defers ∧ (∀ t, (∀ (q : Nat), ds[q]? = some (some t) → listed.getD q false = false) → a.eval (.tmp t) = a0.eval (.tmp t)) ∧ ∀ (i s : Nat), ds[i]? = some (some s) → listed.getD i false = true → G i (a.eval (.tmp s)) w) (acycB_spec hacyc) ?_ ?_ _ _ _ _ (by simp) (by simp) ⟨fun j o' hj h => ?_, h0, hn, rfl, fun t _ => rfl, fun i s hs h => ?_⟩
  · rintro listed a w i o ⟨hcl, hJ, hs, hdf, hfr, hg⟩ hls hun ho hdeps
    have hi : i < ops.size := (Array.getElem?_eq_some_iff.1 ho).1
    have hp : ds[i]? = some (ds[i]'(by omega)) := List.getElem?_eq_getElem (by omega)
    generalize ds[i]'(by omega) = d at hp
    refine step i o d ho hp listed a w hls hun hcl hJ hdf (fun e he hb => ⟨hdeps e he hb, fun s hq => hg e.on s hq (hdeps e he hb)⟩) hfr _ ?_
    intro v w' hmono hJ' hG
    rw [hop i o d ho hp]
    have hcl' : ∀ (j : Nat) o', ops[j]? = some o' → (listed.setIfInBounds i true).getD j false = true → ∀ e ∈ o'.after, Region.binds md e = true → (listed.setIfInBounds i true).getD e.on false = true := by
      intro j o' hj hlj e he hbd
      by_cases hji : j = i
      · subst hji
        rw [ho] at hj
        cases hj
        exact getD_set_keep (hdeps e he hbd)
      · rw [getD_set_ne false (fun h => hji h.symm)] at hlj
        exact getD_set_keep (hcl j o' hj hlj e he hbd)
    cases d with
    | none =>
      refine ⟨hcl', hJ', hs, hdf, fun t ht => hfr t (fun q hq => by
        by_cases e : i = q
        · have := ht q hq; rw [← e] at this; rw [show (listed.setIfInBounds i true).getD i false = true by simp [show i < listed.size by omega]] at this; cases this
        · have := ht q hq; rwa [getD_set_ne false e] at this), fun j s hj hlj => ?_⟩
      have hji : j ≠ i := fun e => by subst e; rw [hp] at hj; cases hj
      refine hmono _ _ (hg j s hj ?_)
      rwa [getD_set_ne false (fun h => hji h.symm)] at hlj
    | some s0 =>
      refine ⟨hcl', hJ', by simpa [Act.put] using hs, hdf, fun t ht => ?_, fun j s hj hlj => ?_⟩
      · have hne : ∀ q, ds[q]? = some (some t) → i ≠ q := fun q hq e => by
          have := ht q hq
          rw [← e] at this
          rw [show (listed.setIfInBounds i true).getD i false = true by simp [show i < listed.size by omega]] at this
          cases this
        rw [eval_put_far _ _ _ _ (fun e => hne i (by rw [e]; exact hp) rfl)]
        exact hfr t (fun q hq => by have := ht q hq; rwa [getD_set_ne false (hne q hq)] at this)
      · by_cases e : j = i
        · subst e
          rw [hp] at hj
          cases hj
          rw [eval_put_self _ _ _ (by have := hlt j s0 hp; omega)]
          exact hG rfl
        · rw [eval_put_far _ _ _ _ (fun e' => e (hinj j i s0 (by rw [← e']; exact hj) hp))]
          refine hmono _ _ (hg j s hj ?_)
          rwa [getD_set_ne false (fun h => e h.symm)] at hlj
  · rintro listed a w ⟨hcl, hJ, hs, hdf, hfr, hg⟩ hall
    rw [eq_pairs hs hn hdf hnd (fun s hm => by obtain ⟨i, hi⟩ := List.mem_iff_getElem?.1 hm; exact hlt i s hi) (fun t ht => hfr t (fun q hq => absurd (List.mem_of_getElem? hq) ht))]
    exact fin listed w (fun s => a.eval (.tmp s)) hall hJ (fun i s hi => hg i s hi (hall i (by have := (List.getElem?_eq_some_iff.1 hi).1; omega)))
  · have : j < ops.size := (Array.getElem?_eq_some_iff.1 hj).1
    simp [this] at h
  · have : i < ops.size := by have := (List.getElem?_eq_some_iff.1 hs).1; omega
    simp [this] at h

end
end Go.Proofs.Ytlihcckgnnnekaa.Vals
