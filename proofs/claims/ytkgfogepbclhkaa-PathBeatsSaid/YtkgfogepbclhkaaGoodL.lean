/-
  A region that draws its order and ends in one operation that waits for the rest, by what each of its operations leaves behind; what is so of the world may hang on which operations have run. Program apart.
-/
import Derived.Test.YtkgfogepbclhkaaGoodW
namespace Go.Proofs.Ytkgfogepbclhkaa.Vals
open Go.RowKit
set_option linter.unusedVariables false
section
variable {P : Program} {md : Region.Mode} {ops : Array Oper} {Q : Exit → Act → World → Prop}

theorem wpAny_goodLastL (G : Nat → Value → World → Prop) (J : Array Bool → World → Prop) (ds : List (Option Nat)) (N n : Nat) (a0 : Act) (w0 : World) (hn : a0.tmps.size = n)
    (hacyc : acycB md ops = true) (hlast : lastB md ops N = true) (hdst : dstsW ops ds n = true) (hnd : (ds.filterMap id).Nodup) (hN : ds[N]? = some none)
    (step : ∀ (i : Nat) o d, ops[i]? = some o → ds[i]? = some d → i < N → ∀ listed a w, listed.size = ops.size → listed.getD i false = false → (∀ (j : Nat) o', ops[j]? = some o' → listed.getD j false = true → ∀ e ∈ o'.after, Region.binds md e = true → listed.getD e.on false = true) → J listed w → a.defers = a0.defers →
      (∀ e ∈ o.after, Region.binds md e = true → ∀ s, ds[e.on]? = some (some s) → G e.on (a.eval (.tmp s)) w) → (∀ t, some t ∉ ds → a.eval (.tmp t) = a0.eval (.tmp t)) →
      ∀ K : Act → World → Prop, (∀ v w', (∀ j x, listed.getD j false = true → j ≠ i → G j x w → G j x w') → J (listed.setIfInBounds i true) w' → (d.isSome = true → G i v w') → K (a.put o.dst v) w') → wpOp P ops Q i K a w)
    (fin : ∀ listed w' f, (∀ j, j < N → listed.getD j false = true) → J listed w' → (∀ (i s : Nat), ds[i]? = some (some s) → G i (f s) w') → wpOp P ops Q N (fun a w => Q .normal a w) (puts (pairs ds f) a0) w') (h0 : J (Array.replicate ops.size false) w0) :
    wpAny P md ops Q ops.size (Array.replicate ops.size false) a0 w0 := by
  obtain ⟨hlen, hop, hlt⟩ := dstsW_at hdst
  obtain ⟨hsz, hall⟩ := lastB_spec hlast
  have hinj := filterMap_inj hnd
  refine wpAny_inv2 (fun listed a w => (∀ (j : Nat) o', ops[j]? = some o' → listed.getD j false = true → ∀ e ∈ o'.after, Region.binds md e = true → listed.getD e.on false = true) ∧ (listed.getD N false = true → (∀ i, i < N → listed.getD i false = true) ∧ Q .normal a w) ∧ (listed.getD N false = false → J listed w ∧ a.tmps.size = n ∧ a.defers = a0.defers ∧ (∀ t, some t ∉ ds → a.eval (.tmp t) = a0.eval (.tmp t)) ∧ ∀ (i s : Nat), ds[i]? = some (some s) → listed.getD i false = true → G i (a.eval (.tmp s)) w))
    (acycB_spec hacyc) ?_ ?_ _ _ _ _ (by simp) (by simp) ⟨fun j o' hj h => ?_, fun h => ?_, fun _ => ⟨h0, hn, rfl, fun t _ => rfl, fun i s hs h => ?_⟩⟩
  · rintro listed a w i o ⟨hcl, hI1, hI2⟩ hls hun ho hdeps
    have hcl' : ∀ (j : Nat) o', ops[j]? = some o' → (listed.setIfInBounds i true).getD j false = true → ∀ e ∈ o'.after, Region.binds md e = true → (listed.setIfInBounds i true).getD e.on false = true := by
      intro j o' hj hlj e he hbd
      by_cases hji : j = i
      · subst hji
        rw [ho] at hj
        cases hj
        exact getD_set_keep (hdeps e he hbd)
      · rw [getD_set_ne false (fun h => hji h.symm)] at hlj
        exact getD_set_keep (hcl j o' hj hlj e he hbd)
    have hi : i < ops.size := (Array.getElem?_eq_some_iff.1 ho).1
    have hun' : listed.getD i false = false := by
      have h2 : i < listed.size := by omega
      simp [h2] at hun ⊢
      exact hun
    by_cases hiN : i = N
    · subst hiN
      obtain ⟨hJ, hs, hdf, hfr, hg⟩ := hI2 hun'
      have hl : ∀ j, j < i → listed.getD j false = true := fun j hj => by
        obtain ⟨e, he, hej, hb⟩ := hall o ho j hj
        rw [← hej]
        exact hdeps e he hb
      have h1 := eq_pairs hs hn hdf hnd (fun s hm => by obtain ⟨i, hi⟩ := List.mem_iff_getElem?.1 hm; exact hlt i s hi) hfr
      rw [h1]
      refine wpOp_mono (fun a' w' hq => ⟨hcl', fun _ => ⟨fun j hj => ?_, hq⟩, fun h => ?_⟩) (fin listed w (fun s => a.eval (.tmp s)) hl hJ (fun j s hj => hg j s hj (hl j ?_)))
      · rw [getD_set_ne false (fun h => by omega)]
        exact hl j hj
      · simp [hls, hi] at h
      · have h2 := (List.getElem?_eq_some_iff.1 hj).1
        have h3 : j ≠ i := fun e => by subst e; rw [hN] at hj; cases hj
        omega
    · have hlN : listed.getD N false = false := by
        cases h : listed.getD N false with
        | false => rfl
        | true => rw [(hI1 h).1 i (by omega)] at hun'; cases hun'
      obtain ⟨hJ, hs, hdf, hfr, hg⟩ := hI2 hlN
      have hp : ds[i]? = some (ds[i]'(by omega)) := List.getElem?_eq_getElem (by omega)
      generalize ds[i]'(by omega) = d at hp
      refine step i o d ho hp (by omega) listed a w hls hun' hcl hJ hdf (fun e he hb s hq => hg e.on s hq (hdeps e he hb)) hfr _ ?_
      intro v w' hmono hJ' hG
      have hlN' : (listed.setIfInBounds i true).getD N false = false := by rw [getD_set_ne false hiN]; exact hlN
      rw [hop i o d ho hp]
      refine ⟨hcl', fun h => (by rw [hlN'] at h; cases h), fun _ => ?_⟩
      cases d with
      | none =>
        refine ⟨hJ', hs, hdf, hfr, fun j s hj hlj => ?_⟩
        have hji : j ≠ i := fun e => by subst e; rw [hp] at hj; cases hj
        rw [getD_set_ne false (fun h => hji h.symm)] at hlj
        exact hmono _ _ hlj hji (hg j s hj hlj)
      | some s0 =>
        refine ⟨hJ', by simpa [Act.put] using hs, hdf, fun t ht => ?_, fun j s hj hlj => ?_⟩
        · rw [eval_put_far _ _ _ _ (fun e => ht (by rw [e]; exact List.mem_of_getElem? hp))]
          exact hfr t ht
        · by_cases e : j = i
          · subst e
            rw [hp] at hj
            cases hj
            rw [eval_put_self _ _ _ (by have := hlt j s0 hp; omega)]
            exact hG rfl
          · rw [eval_put_far _ _ _ _ (fun e' => e (hinj j i s0 (by rw [← e']; exact hj) hp))]
            rw [getD_set_ne false (fun h => e h.symm)] at hlj
            exact hmono _ _ hlj e (hg j s hj hlj)
  · rintro listed a w ⟨_, hI1, hI2⟩ hall'
    exact (hI1 (hall' N (by omega))).2
  · have : j < ops.size := (Array.getElem?_eq_some_iff.1 hj).1
    simp [this] at h
  · simp [hsz] at h
  · have : i < ops.size := by have := (List.getElem?_eq_some_iff.1 hs).1; omega
    simp [this] at h
theorem oper_append_run {o : Oper} {a : Act} {w : World} {K : Act → World → Prop} (s x : Operand) (t : TypeId) (hop : o.op = Op.call { callee := Callee.builtin Builtin.append, args := #[s, x], argTypes := #[t, t] }) (vs vx v' : Value) (w' : World)
    (hs : a.eval s = vs) (hx : a.eval x = vx) (hrun : (Builtin.append_ #[t, t] o.type #[vs, vx]).run P w = .ok v' w') (hK : K (a.put o.dst v') w') : Oper.wp P o a w K Q := by
  unfold Oper.wp
  simp only [execOp, hop, resolve, invoke, builtin, Sem.run_bind, Sem.run_pure, Result.andThen_ok, List.map_toArray, List.map_cons, List.map_nil, hs, hx, hrun]
  exact hK
end
theorem jlisted {l : Array Bool} {i q : Nat} (h : (l.setIfInBounds i true).getD q false = false) (hi : i ≠ q) : l.getD q false = false := by rwa [getD_set_ne false hi] at h
theorem jself {l : Array Bool} {q : Nat} (hq : q < l.size) (h : (l.setIfInBounds q true).getD q false = false) : False := by simp [hq] at h
theorem jself2 {l : Array Bool} {q : Nat} (hq : q < l.size) (h : (l.setIfInBounds q true).getD q false = false) : False := jself hq h
theorem jnot {l : Array Bool} {i q : Nat} (hun : l.getD i true = false) (h : l.getD q false = true → l.getD i false = true) : l.getD q false = false := by
  cases hq : l.getD q false with
  | false => rfl
  | true => have := h hq; rw [getD_true_false hun] at this; cases this
theorem jnew {q : Nat} {A B : Prop} {l : Array Bool} {i : Nat} (hq : l.getD q false = false) (hi : i ≠ q) (a : A) : JR q A B (l.setIfInBounds i true) := by
  unfold JR
  rw [getD_set_ne false hi]
  exact ⟨fun _ => a, fun h => by rw [hq] at h; cases h⟩
end Go.Proofs.Ytkgfogepbclhkaa.Vals
