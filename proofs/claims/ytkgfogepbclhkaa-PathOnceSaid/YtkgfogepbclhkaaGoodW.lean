/-
  A region that draws its order, by what each of its operations leaves behind in its slot (good values, not one value): new memory may be made in whatever order. 'wpAny_goodW': what is so of the world may hang on which operations have run, and that the one that runs has not is told. 'wpAny_goodLast': the last operation (a store, say) waits for all others: it is walked by itself. Program apart.
-/
import Derived.Test.YtkgfogepbclhkaaValsW
namespace Go.Proofs.Ytkgfogepbclhkaa.Vals
open Go.RowKit
set_option linter.unusedVariables false
section
variable {P : Program} {md : Region.Mode} {ops : Array Oper} {Q : Exit → Act → World → Prop}

theorem wpAny_inv2 (I : Array Bool → Act → World → Prop) (hacyc : ∀ (i : Nat) o, ops[i]? = some o → ∀ e ∈ o.after, Region.binds md e = true → e.on < i)
    (step : ∀ listed a w (i : Nat) o, I listed a w → listed.size = ops.size → listed.getD i true = false → ops[i]? = some o → (∀ e ∈ o.after, Region.binds md e = true → listed.getD e.on false = true) → wpOp P ops Q i (I (listed.setIfInBounds i true)) a w)
    (fin : ∀ listed a w, I listed a w → (∀ i, i < ops.size → listed.getD i false = true) → Q .normal a w) :
    ∀ (fuel : Nat) (listed : Array Bool) (a : Act) (w : World), listed.size = ops.size → listed.toList.count false ≤ fuel → I listed a w → wpAny P md ops Q fuel listed a w := by
  intro fuel
  induction fuel with
  | zero =>
    intro listed a w hs hc hI
    have hall : ∀ i, i < ops.size → listed.getD i false = true := by
      intro i hi
      cases hl : listed.getD i false with
      | true => rfl
      | false =>
        exfalso
        have h2 : i < listed.size := by omega
        have h3 : (false : Bool) ∈ listed.toList := by
          simp [h2] at hl
          rw [← hl]
          simp
        have := List.count_pos_iff.2 h3
        omega
    refine ⟨?_, fin listed a w hI hall⟩
    cases hr : Region.ready md ops listed with
    | nil => rfl
    | cons i rest =>
      exfalso
      have hm : i ∈ Region.ready md ops listed := by rw [hr]; simp
      obtain ⟨h0, o, ho, _⟩ := mem_ready.1 hm
      have hi : i < ops.size := (Array.getElem?_eq_some_iff.1 ho).1
      have h1 := hall i hi
      have h2 : i < listed.size := by omega
      simp [h2] at h0 h1
      rw [h0] at h1
      cases h1
  | succ fuel ih =>
    intro listed a w hs hc hI
    refine ⟨fun hr => fin listed a w hI (all_listed hs hacyc hr), fun i hi => ?_⟩
    obtain ⟨h0, o, ho, hd⟩ := mem_ready.1 hi
    have hlt : i < ops.size := (Array.getElem?_eq_some_iff.1 ho).1
    have h2 : i < listed.size := by omega
    refine wpOp_mono (fun a' w' hI' => ih _ a' w' (by simp [hs]) ?_ hI') (step listed a w i o hI hs h0 ho hd)
    have h3 : listed.toList[i]? = some false := by
      simp [h2] at h0
      simp [h2, h0]
    have := count_set_lt _ _ h3
    simp
    omega

theorem filterMap_inj {ds : List (Option Nat)} (h : (ds.filterMap id).Nodup) : ∀ (i j s : Nat), ds[i]? = some (some s) → ds[j]? = some (some s) → i = j := by
  induction ds with
  | nil => intro i j s h; simp at h
  | cons x ds ih =>
    intro i j s hi hj
    have hin : ∀ (k s : Nat), ds[k]? = some (some s) → s ∈ ds.filterMap id := fun k s h => List.mem_filterMap.2 ⟨some s, List.mem_of_getElem? h, rfl⟩
    cases x with
    | none =>
      simp only [List.filterMap_cons, id] at h
      cases i with
      | zero => simp at hi
      | succ i =>
        cases j with
        | zero => simp at hj
        | succ j => rw [ih h i j s (by simpa using hi) (by simpa using hj)]
    | some y =>
      simp only [List.filterMap_cons, id, List.nodup_cons] at h
      cases i with
      | zero =>
        cases j with
        | zero => rfl
        | succ j =>
          simp at hi
          subst hi
          exact absurd (hin j y (by simpa using hj)) h.1
      | succ i =>
        cases j with
        | zero =>
          simp at hj
          subst hj
          exact absurd (hin i y (by simpa using hi)) h.1
        | succ j => rw [ih h.2 i j s (by simpa using hi) (by simpa using hj)]

theorem dstsW_at {ds : List (Option Nat)} {n : Nat} (h : dstsW ops ds n = true) : ds.length = ops.size ∧ (∀ (i : Nat) o d, ops[i]? = some o → ds[i]? = some d → o.dst = d) ∧ ∀ (i s : Nat), ds[i]? = some (some s) → s < n := by
  unfold dstsW at h
  rw [Bool.and_eq_true, decide_eq_true_eq] at h
  obtain ⟨h1, h2⟩ := h
  subst h1
  refine ⟨by simp, fun i o d ho hd => ?_, fun i s hs => ?_⟩
  · have h1 : (ops.toList.map (·.dst))[i]? = some o.dst := by simp [ho]
    rw [h1] at hd
    exact Option.some.inj hd
  · have := List.all_eq_true.1 h2 (some s) (List.mem_of_getElem? hs)
    simpa using this

/-- The slots and what the act has in them. -/
def pairs (ds : List (Option Nat)) (f : Nat → Value) : List (Nat × Value) := (ds.filterMap id).map fun s => (s, f s)
theorem pairs_map (ds : List (Option Nat)) (f : Nat → Value) : (pairs ds f).map (·.1) = ds.filterMap id := by
  unfold pairs
  rw [List.map_map]
  conv => rhs; rw [← List.map_id (ds.filterMap id)]
  rfl
theorem eq_pairs {ds : List (Option Nat)} {n : Nat} {a a0 : Act} (hn : a.tmps.size = n) (hn0 : a0.tmps.size = n) (hd : a.defers = a0.defers) (hnd : (ds.filterMap id).Nodup) (hlt : ∀ s, some s ∈ ds → s < n) (hfr : ∀ t, some t ∉ ds → a.eval (.tmp t) = a0.eval (.tmp t)) :
    a = puts (pairs ds fun s => a.eval (.tmp s)) a0 := by
  refine act_ext (by rw [puts_size, hn, hn0]) (by rw [puts_defers, hd]) (fun t ht => ?_)
  by_cases hm : some t ∈ ds
  · have hp : (t, a.eval (.tmp t)) ∈ pairs ds fun s => a.eval (.tmp s) := List.mem_map.2 ⟨t, List.mem_filterMap.2 ⟨some t, hm, rfl⟩, rfl⟩
    rw [puts_in _ a0 (by rw [pairs_map]; exact hnd) (fun q hq => ?_) _ hp]
    have hq1 : q.1 ∈ (pairs ds fun s => a.eval (.tmp s)).map (·.1) := List.mem_map.2 ⟨q, hq, rfl⟩
    rw [pairs_map] at hq1
    obtain ⟨x, hx, e⟩ := List.mem_filterMap.1 hq1
    simp only [id] at e
    subst e
    rw [hn0]
    exact hlt q.1 hx
  · rw [puts_far _ a0 t, hfr t hm]
    rw [pairs_map]
    intro h
    obtain ⟨x, hx, e⟩ := List.mem_filterMap.1 h
    simp only [id] at e
    subst e
    exact hm hx

theorem getD_set_keep {l : Array Bool} {i j : Nat} (h : l.getD j false = true) : (l.setIfInBounds i true).getD j false = true := by
  by_cases e : i = j
  · subst e
    have hi : i < l.size := by
      by_cases hi : i < l.size
      · exact hi
      · simp [hi] at h
    simp [hi]
  · rw [getD_set_ne false e]; exact h
theorem getD_true_false {l : Array Bool} {i : Nat} (h : l.getD i true = false) : l.getD i false = false := by
  by_cases hi : i < l.size
  · simp [hi] at h ⊢; exact h
  · simp [hi] at h

theorem wpAny_goodW (G : Nat → Value → World → Prop) (J : Array Bool → World → Prop) (ds : List (Option Nat)) (n : Nat) (a0 : Act) (w0 : World) (hn : a0.tmps.size = n)
    (hacyc : acycB md ops = true) (hdst : dstsW ops ds n = true) (hnd : (ds.filterMap id).Nodup)
    (step : ∀ (i : Nat) o d, ops[i]? = some o → ds[i]? = some d → ∀ listed a w, listed.size = ops.size → listed.getD i true = false →
      (∀ (j : Nat) o', ops[j]? = some o' → listed.getD j false = true → ∀ e ∈ o'.after, Region.binds md e = true → listed.getD e.on false = true) → J listed w → a.defers = a0.defers →
      (∀ e ∈ o.after, Region.binds md e = true → listed.getD e.on false = true ∧ ∀ s, ds[e.on]? = some (some s) → G e.on (a.eval (.tmp s)) w) → (∀ t, some t ∉ ds → a.eval (.tmp t) = a0.eval (.tmp t)) →
      ∀ K : Act → World → Prop, (∀ v w', (∀ j x, G j x w → G j x w') → J (listed.setIfInBounds i true) w' → (d.isSome = true → G i v w') → K (a.put o.dst v) w') → wpOp P ops Q i K a w)
    (fin : ∀ listed w' f, (∀ i, i < ops.size → listed.getD i false = true) → J listed w' → (∀ (i s : Nat), ds[i]? = some (some s) → G i (f s) w') → Q .normal (puts (pairs ds f) a0) w') (h0 : J (Array.replicate ops.size false) w0) :
    wpAny P md ops Q ops.size (Array.replicate ops.size false) a0 w0 := by
  obtain ⟨hlen, hop, hlt⟩ := dstsW_at hdst
  have hinj := filterMap_inj hnd
  refine wpAny_inv2 (fun listed a w => (∀ (j : Nat) o', ops[j]? = some o' → listed.getD j false = true → ∀ e ∈ o'.after, Region.binds md e = true → listed.getD e.on false = true) ∧ J listed w ∧ a.tmps.size = n ∧ a.defers = a0.defers ∧ (∀ t, some t ∉ ds → a.eval (.tmp t) = a0.eval (.tmp t)) ∧ ∀ (i s : Nat), ds[i]? = some (some s) → listed.getD i false = true → G i (a.eval (.tmp s)) w) (acycB_spec hacyc) ?_ ?_ _ _ _ _ (by simp) (by simp) ⟨fun j o' hj h => ?_, h0, hn, rfl, fun t _ => rfl, fun i s hs h => ?_⟩
  · rintro listed a w i o ⟨hcl, hJ, hs, hdf, hfr, hg⟩ hls hun ho hdeps
    have hi : i < ops.size := (Array.getElem?_eq_some_iff.1 ho).1
    have hp : ds[i]? = some (ds[i]'(by omega)) := List.getElem?_eq_getElem (by omega)
    generalize ds[i]'(by omega) = d at hp
    refine step i o d ho hp listed a w hls hun hcl hJ hdf (fun e he hb => ⟨hdeps e he hb, fun s hq => hg e.on s hq (hdeps e he hb)⟩) hfr _ ?_
    intro v w' hmono hJ' hG
    rw [hop i o d ho hp]
    have hcl' : ∀ (j : Nat) o', ops[j]? = some o' → (listed.setIfInBounds i true).getD j false = true → ∀ e ∈ o'.after, Region.binds md e = true → (listed.setIfInBounds i true).getD e.on false = true := by
      intro j o' hj hlj e he hbd
      by_cases hji : j = i
      · subst hji
        rw [ho] at hj
        cases hj
        exact getD_set_keep (hdeps e he hbd)
      · rw [getD_set_ne false (fun h => hji h.symm)] at hlj
        exact getD_set_keep (hcl j o' hj hlj e he hbd)
    cases d with
    | none =>
      refine ⟨hcl', hJ', hs, hdf, hfr, fun j s hj hlj => ?_⟩
      have hji : j ≠ i := fun e => by subst e; rw [hp] at hj; cases hj
      refine hmono _ _ (hg j s hj ?_)
      rwa [getD_set_ne false (fun h => hji h.symm)] at hlj
    | some s0 =>
      refine ⟨hcl', hJ', by simpa [Act.put] using hs, hdf, fun t ht => ?_, fun j s hj hlj => ?_⟩
      · rw [eval_put_far _ _ _ _ (fun e => ht (by rw [e]; exact List.mem_of_getElem? hp))]
        exact hfr t ht
      · by_cases e : j = i
        · subst e
          rw [hp] at hj
          cases hj
          rw [eval_put_self _ _ _ (by have := hlt j s0 hp; omega)]
          exact hG rfl
        · rw [eval_put_far _ _ _ _ (fun e' => e (hinj j i s0 (by rw [← e']; exact hj) hp))]
          refine hmono _ _ (hg j s hj ?_)
          rwa [getD_set_ne false (fun h => e h.symm)] at hlj
  · rintro listed a w ⟨hcl, hJ, hs, hdf, hfr, hg⟩ hall
    rw [eq_pairs hs hn hdf hnd (fun s hm => by obtain ⟨i, hi⟩ := List.mem_iff_getElem?.1 hm; exact hlt i s hi) hfr]
    exact fin listed w (fun s => a.eval (.tmp s)) hall hJ (fun i s hi => hg i s hi (hall i (by have := (List.getElem?_eq_some_iff.1 hi).1; omega)))
  · have : j < ops.size := (Array.getElem?_eq_some_iff.1 hj).1
    simp [this] at h
  · have : i < ops.size := by have := (List.getElem?_eq_some_iff.1 hs).1; omega
    simp [this] at h

/-- The last operation waits for each of the others. -/
def lastB (md : Region.Mode) (ops : Array Oper) (N : Nat) : Bool := decide (ops.size = N + 1) && match ops[N]? with
  | some o => (List.range N).all fun i => o.after.any fun e => decide (e.on = i) && Region.binds md e
  | none => false
theorem lastB_spec {N : Nat} (h : lastB md ops N = true) : ops.size = N + 1 ∧ ∀ o, ops[N]? = some o → ∀ i, i < N → ∃ e ∈ o.after, e.on = i ∧ Region.binds md e = true := by
  unfold lastB at h
  rw [Bool.and_eq_true, decide_eq_true_eq] at h
  refine ⟨h.1, fun o ho i hi => ?_⟩
  have h2 := h.2
  simp only [ho] at h2
  have h3 := List.all_eq_true.1 h2 i (List.mem_range.2 hi)
  obtain ⟨e, he, hb⟩ := Array.any_eq_true'.1 h3
  rw [Bool.and_eq_true, decide_eq_true_eq] at hb
  exact ⟨e, he, hb.1, hb.2⟩

theorem wpAny_goodLast (G : Nat → Value → World → Prop) (J : World → Prop) (ds : List (Option Nat)) (N n : Nat) (a0 : Act) (w0 : World) (hn : a0.tmps.size = n)
    (hacyc : acycB md ops = true) (hlast : lastB md ops N = true) (hdst : dstsW ops ds n = true) (hnd : (ds.filterMap id).Nodup) (hN : ds[N]? = some none)
    (step : ∀ (i : Nat) o d, ops[i]? = some o → ds[i]? = some d → i < N → ∀ a w, J w → a.defers = a0.defers →
      (∀ e ∈ o.after, Region.binds md e = true → ∀ s, ds[e.on]? = some (some s) → G e.on (a.eval (.tmp s)) w) → (∀ t, some t ∉ ds → a.eval (.tmp t) = a0.eval (.tmp t)) →
      ∀ K : Act → World → Prop, (∀ v w', (∀ j x, G j x w → G j x w') → J w' → (d.isSome = true → G i v w') → K (a.put o.dst v) w') → wpOp P ops Q i K a w)
    (fin : ∀ w' f, J w' → (∀ (i s : Nat), ds[i]? = some (some s) → G i (f s) w') → wpOp P ops Q N (fun a w => Q .normal a w) (puts (pairs ds f) a0) w') (h0 : J w0) :
    wpAny P md ops Q ops.size (Array.replicate ops.size false) a0 w0 := by
  obtain ⟨hlen, hop, hlt⟩ := dstsW_at hdst
  obtain ⟨hsz, hall⟩ := lastB_spec hlast
  have hinj := filterMap_inj hnd
  refine wpAny_inv2 (fun listed a w => (listed.getD N false = true → (∀ i, i < N → listed.getD i false = true) ∧ Q .normal a w) ∧ (listed.getD N false = false → J w ∧ a.tmps.size = n ∧ a.defers = a0.defers ∧ (∀ t, some t ∉ ds → a.eval (.tmp t) = a0.eval (.tmp t)) ∧ ∀ (i s : Nat), ds[i]? = some (some s) → listed.getD i false = true → G i (a.eval (.tmp s)) w))
    (acycB_spec hacyc) ?_ ?_ _ _ _ _ (by simp) (by simp) ⟨fun h => ?_, fun _ => ⟨h0, hn, rfl, fun t _ => rfl, fun i s hs h => ?_⟩⟩
  · rintro listed a w i o ⟨hI1, hI2⟩ hls hun ho hdeps
    have hi : i < ops.size := (Array.getElem?_eq_some_iff.1 ho).1
    have hun' : listed.getD i false = false := by
      have h2 : i < listed.size := by omega
      simp [h2] at hun ⊢
      exact hun
    by_cases hiN : i = N
    · subst hiN
      obtain ⟨hJ, hs, hdf, hfr, hg⟩ := hI2 hun'
      have hl : ∀ j, j < i → listed.getD j false = true := fun j hj => by
        obtain ⟨e, he, hej, hb⟩ := hall o ho j hj
        rw [← hej]
        exact hdeps e he hb
      have h1 := eq_pairs hs hn hdf hnd (fun s hm => by obtain ⟨i, hi⟩ := List.mem_iff_getElem?.1 hm; exact hlt i s hi) hfr
      rw [h1]
      refine wpOp_mono (fun a' w' hq => ⟨fun _ => ⟨fun j hj => ?_, hq⟩, fun h => ?_⟩) (fin w (fun s => a.eval (.tmp s)) hJ (fun j s hj => hg j s hj (hl j ?_)))
      · rw [getD_set_ne false (fun h => by omega)]
        exact hl j hj
      · simp [hls, hi] at h
      · have h2 := (List.getElem?_eq_some_iff.1 hj).1
        have h3 : j ≠ i := fun e => by subst e; rw [hN] at hj; cases hj
        omega
    · have hlN : listed.getD N false = false := by
        cases h : listed.getD N false with
        | false => rfl
        | true => rw [(hI1 h).1 i (by omega)] at hun'; cases hun'
      obtain ⟨hJ, hs, hdf, hfr, hg⟩ := hI2 hlN
      have hp : ds[i]? = some (ds[i]'(by omega)) := List.getElem?_eq_getElem (by omega)
      generalize ds[i]'(by omega) = d at hp
      refine step i o d ho hp (by omega) a w hJ hdf (fun e he hb s hq => hg e.on s hq (hdeps e he hb)) hfr _ ?_
      intro v w' hmono hJ' hG
      have hlN' : (listed.setIfInBounds i true).getD N false = false := by rw [getD_set_ne false hiN]; exact hlN
      rw [hop i o d ho hp]
      refine ⟨fun h => (by rw [hlN'] at h; cases h), fun _ => ?_⟩
      cases d with
      | none =>
        refine ⟨hJ', hs, hdf, hfr, fun j s hj hlj => ?_⟩
        have hji : j ≠ i := fun e => by subst e; rw [hp] at hj; cases hj
        refine hmono _ _ (hg j s hj ?_)
        rwa [getD_set_ne false (fun h => hji h.symm)] at hlj
      | some s0 =>
        refine ⟨hJ', by simpa [Act.put] using hs, hdf, fun t ht => ?_, fun j s hj hlj => ?_⟩
        · rw [eval_put_far _ _ _ _ (fun e => ht (by rw [e]; exact List.mem_of_getElem? hp))]
          exact hfr t ht
        · by_cases e : j = i
          · subst e
            rw [hp] at hj
            cases hj
            rw [eval_put_self _ _ _ (by have := hlt j s0 hp; omega)]
            exact hG rfl
          · rw [eval_put_far _ _ _ _ (fun e' => e (hinj j i s0 (by rw [← e']; exact hj) hp))]
            refine hmono _ _ (hg j s hj ?_)
            rwa [getD_set_ne false (fun h => e h.symm)] at hlj
  · rintro listed a w ⟨hI1, hI2⟩ hall'
    exact (hI1 (hall' N (by omega))).2
  · simp [hsz] at h
  · have : i < ops.size := by have := (List.getElem?_eq_some_iff.1 hs).1; omega
    simp [this] at h
end

/-- What is so while a region runs: as before till operation q has run. -/
def JR (q : Nat) (A : Prop) (B : Prop) (l : Array Bool) : Prop := (l.getD q false = false → A) ∧ (l.getD q false = true → B)
theorem jkeep {q : Nat} {A B : Prop} {l : Array Bool} (h : JR q A B l) {i : Nat} (hi : i ≠ q) : JR q A B (l.setIfInBounds i true) := by
  unfold JR
  rw [getD_set_ne false hi]
  exact h
theorem jset {q : Nat} {A B : Prop} {l : Array Bool} (hls : q < l.size) (h : B) : JR q A B (l.setIfInBounds q true) := by
  have e : (l.setIfInBounds q true).getD q false = true := by simp [hls]
  unfold JR
  rw [e]
  exact ⟨fun h => (by cases h), fun _ => h⟩
theorem jpre {q : Nat} {A B : Prop} {l : Array Bool} (h : JR q A B l) {i : Nat} (hun : l.getD i true = false) (hi : l.getD q false = true → l.getD i false = true) : A := by
  have h0 := getD_true_false hun
  refine h.1 ?_
  cases h5 : l.getD q false with
  | false => rfl
  | true => rw [hi h5] at h0; cases h0
theorem jor {q : Nat} {A B : Prop} {l : Array Bool} (h : JR q A B l) : A ∨ B := by
  cases h5 : l.getD q false with
  | false => exact .inl (h.1 h5)
  | true => exact .inr (h.2 h5)
end Go.Proofs.Ytkgfogepbclhkaa.Vals
