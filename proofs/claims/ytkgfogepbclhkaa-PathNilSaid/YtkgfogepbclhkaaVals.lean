/-
  A region that draws its order, whose operations' values hang on no order: each operation looked at once, with the values of those that it waits for; what is done to the world by a word on worlds of your own. Guards that are false, too. Program apart.
-/
import Derived.WalkKit
import Derived.WalkSpells
import Derived.Orders
import Derived.RegionTactic
namespace Go.Proofs.Ytkgfogepbclhkaa.Vals
open Go.RowKit
set_option linter.unusedVariables false

theorem count_set_lt (l : List Bool) (i : Nat) (h : l[i]? = some false) : (l.set i true).count false + 1 = l.count false := by
  induction l generalizing i with
  | nil => simp at h
  | cons x l ih =>
    cases i with
    | zero => simp at h; subst h; simp
    | succ i =>
      simp at h
      have := ih i h
      simp [List.count_cons]
      omega

theorem nodup_inj {l : List Nat} (h : l.Nodup) (i j : Nat) (hi : i < l.length) (hj : j < l.length) (e : l[i] = l[j]) : i = j := by
  rcases Nat.lt_trichotomy i j with hlt | heq | hgt
  · exact absurd e (List.pairwise_iff_getElem.1 h i j hi hj hlt)
  · exact heq
  · exact absurd e.symm (List.pairwise_iff_getElem.1 h j i hj hi hgt)
theorem eval_tmp (a : Act) (t : Nat) : a.eval (.tmp t) = a.tmps[t]?.getD undef := by simp [Act.eval]
theorem eval_put_self (a : Act) (d : Nat) (v : Value) (h : d < a.tmps.size) : (a.put (some d) v).eval (.tmp d) = v := by
  simp [Act.eval, Act.put, h]
theorem eval_put_far (a : Act) (d t : Nat) (v : Value) (h : t ≠ d) : (a.put (some d) v).eval (.tmp t) = a.eval (.tmp t) :=
  Act.eval_put (fun d' h1 h2 => h ((Operand.tmp.inj h2).trans (Option.some.inj h1).symm))

/-- The act with all these laid into it. -/
def puts (L : List (Nat × Value)) (a : Act) : Act := L.foldl (fun a p => a.put (some p.1) p.2) a
theorem puts_size (L : List (Nat × Value)) (a : Act) : (puts L a).tmps.size = a.tmps.size := by
  unfold puts
  induction L generalizing a with
  | nil => rfl
  | cons p L ih => rw [List.foldl_cons, ih]; simp [Act.put]
theorem puts_defers (L : List (Nat × Value)) (a : Act) : (puts L a).defers = a.defers := by
  unfold puts
  induction L generalizing a with
  | nil => rfl
  | cons p L ih => rw [List.foldl_cons, ih]; rfl
theorem puts_far (L : List (Nat × Value)) (a : Act) (t : Nat) (h : t ∉ L.map (·.1)) : (puts L a).eval (.tmp t) = a.eval (.tmp t) := by
  unfold puts
  induction L generalizing a with
  | nil => rfl
  | cons p L ih =>
    simp at h
    rw [List.foldl_cons, ih _ (by simp; exact h.2), eval_put_far _ _ _ _ h.1]
theorem puts_in (L : List (Nat × Value)) (a : Act) (hn : (L.map (·.1)).Nodup) (hs : ∀ p ∈ L, p.1 < a.tmps.size) (p : Nat × Value) (hp : p ∈ L) : (puts L a).eval (.tmp p.1) = p.2 := by
  unfold puts
  induction L generalizing a with
  | nil => cases hp
  | cons q L ih =>
    rw [List.map_cons, List.nodup_cons] at hn
    rw [List.foldl_cons]
    rcases List.mem_cons.1 hp with rfl | hp
    · have := puts_far L (a.put (some p.1) p.2) p.1 hn.1
      unfold puts at this
      rw [this, eval_put_self _ _ _ (hs p (by simp))]
    · exact ih _ hn.2 (fun r hr => by have := hs r (by simp [hr]); simpa [Act.put] using this) hp
theorem act_ext {a b : Act} (hs : a.tmps.size = b.tmps.size) (hd : a.defers = b.defers) (h : ∀ t, t < b.tmps.size → a.eval (.tmp t) = b.eval (.tmp t)) : a = b := by
  obtain ⟨ta, da⟩ := a
  obtain ⟨tb, db⟩ := b
  simp only at hs hd
  subst hd
  congr 1
  refine Array.ext hs fun t h1 h2 => ?_
  have := h t h2
  simp only [eval_tmp] at this
  simpa [h1, h2] using this

section
variable {P : Program} {md : Region.Mode} {ops : Array Oper} {Q : Exit → Act → World → Prop}

theorem all_listed {listed : Array Bool} (hs : listed.size = ops.size) (hacyc : ∀ (i : Nat) o, ops[i]? = some o → ∀ e ∈ o.after, Region.binds md e = true → e.on < i) (hr : Region.ready md ops listed = []) :
    ∀ i, i < ops.size → listed.getD i false = true := by
  intro i
  induction i using Nat.strongRecOn with
  | ind i ih =>
    intro hi
    cases hl : listed.getD i false with
    | true => rfl
    | false =>
      exfalso
      have hm : i ∈ Region.ready md ops listed := by
        rw [mem_ready]
        refine ⟨?_, ops[i], by simp [hi], fun e he hb => ih e.on (hacyc i _ (by simp [hi]) e he hb) (Nat.lt_trans (hacyc i _ (by simp [hi]) e he hb) hi)⟩
        have h2 : i < listed.size := by omega
        simp [h2] at hl ⊢
        exact hl
      rw [hr] at hm
      cases hm

theorem wpAny_inv (I : Array Bool → Act → World → Prop) (hacyc : ∀ (i : Nat) o, ops[i]? = some o → ∀ e ∈ o.after, Region.binds md e = true → e.on < i)
    (step : ∀ listed a w (i : Nat) o, I listed a w → listed.size = ops.size → ops[i]? = some o → (∀ e ∈ o.after, Region.binds md e = true → listed.getD e.on false = true) → wpOp P ops Q i (I (listed.setIfInBounds i true)) a w)
    (fin : ∀ listed a w, I listed a w → (∀ i, i < ops.size → listed.getD i false = true) → Q .normal a w) :
    ∀ (fuel : Nat) (listed : Array Bool) (a : Act) (w : World), listed.size = ops.size → listed.toList.count false ≤ fuel → I listed a w → wpAny P md ops Q fuel listed a w := by
  intro fuel
  induction fuel with
  | zero =>
    intro listed a w hs hc hI
    have hall : ∀ i, i < ops.size → listed.getD i false = true := by
      intro i hi
      cases hl : listed.getD i false with
      | true => rfl
      | false =>
        exfalso
        have h2 : i < listed.size := by omega
        have h3 : (false : Bool) ∈ listed.toList := by
          simp [h2] at hl
          rw [← hl]
          simp
        have := List.count_pos_iff.2 h3
        omega
    refine ⟨?_, fin listed a w hI hall⟩
    cases hr : Region.ready md ops listed with
    | nil => rfl
    | cons i rest =>
      exfalso
      have hm : i ∈ Region.ready md ops listed := by rw [hr]; simp
      obtain ⟨h0, o, ho, _⟩ := mem_ready.1 hm
      have hi : i < ops.size := (Array.getElem?_eq_some_iff.1 ho).1
      have h1 := hall i hi
      have h2 : i < listed.size := by omega
      simp [h2] at h0 h1
      rw [h0] at h1
      cases h1
  | succ fuel ih =>
    intro listed a w hs hc hI
    refine ⟨fun hr => fin listed a w hI (all_listed hs hacyc hr), fun i hi => ?_⟩
    obtain ⟨h0, o, ho, hd⟩ := mem_ready.1 hi
    have hlt : i < ops.size := (Array.getElem?_eq_some_iff.1 ho).1
    have h2 : i < listed.size := by omega
    refine wpOp_mono (fun a' w' hI' => ih _ a' w' (by simp [hs]) ?_ hI') (step listed a w i o hI hs ho hd)
    have h3 : listed.toList[i]? = some false := by
      simp [h2] at h0
      simp [h2, h0]
    have := count_set_lt _ _ h3
    simp
    omega

/-- Each operation comes behind those that it waits for. -/
def acycB (md : Region.Mode) (ops : Array Oper) : Bool := (List.range ops.size).all fun i => match ops[i]? with
  | some o => o.after.all fun e => !Region.binds md e || decide (e.on < i)
  | none => true
theorem acycB_spec (h : acycB md ops = true) : ∀ (i : Nat) o, ops[i]? = some o → ∀ e ∈ o.after, Region.binds md e = true → e.on < i := by
  intro i o ho e he hb
  unfold acycB at h
  have h1 := List.all_eq_true.1 h i (List.mem_range.2 (Array.getElem?_eq_some_iff.1 ho).1)
  simp only [ho] at h1
  have h2 := Array.all_eq_true_iff_forall_mem.1 h1 e he
  simpa [hb] using h2
/-- The operations write these slots, in their order. -/
def dstsB (ops : Array Oper) (ds : List Nat) (n : Nat) : Bool := decide (ops.toList.map (·.dst) = ds.map some) && ds.all (fun d => decide (d < n))

theorem wpAny_vals (L : List (Nat × Value)) (ds : List Nat) (n : Nat) (I : World → Prop) (a0 : Act) (w0 : World) (hn : a0.tmps.size = n)
    (hacyc : acycB md ops = true) (hds : L.map (·.1) = ds) (hdst : dstsB ops ds n = true) (hnd : ds.Nodup)
    (step : ∀ (i : Nat) o p, ops[i]? = some o → L[i]? = some p → ∀ a w, I w → a.defers = a0.defers →
      (∀ e ∈ o.after, Region.binds md e = true → ∀ q, L[e.on]? = some q → a.eval (.tmp q.1) = q.2) → (∀ t, t ∉ ds → a.eval (.tmp t) = a0.eval (.tmp t)) →
      ∀ K : Act → World → Prop, (∀ w', I w' → K (a.put o.dst p.2) w') → wpOp P ops Q i K a w)
    (fin : ∀ w', I w' → Q .normal (puts L a0) w') (h0 : I w0) :
    wpAny P md ops Q ops.size (Array.replicate ops.size false) a0 w0 := by
  subst hds
  unfold dstsB at hdst
  rw [Bool.and_eq_true, decide_eq_true_eq] at hdst
  obtain ⟨hd1, hd2⟩ := hdst
  have hlen : L.length = ops.size := by
    have := congrArg List.length hd1
    simpa using this.symm
  have hsz : ∀ p ∈ L, p.1 < n := fun p hp => by
    have := List.all_eq_true.1 hd2 p.1 (List.mem_map.2 ⟨p, hp, rfl⟩)
    simpa using this
  have hop : ∀ (i : Nat) o p, ops[i]? = some o → L[i]? = some p → o.dst = some p.1 := by
    intro i o p ho hp
    have h1 : (ops.toList.map (·.dst))[i]? = some o.dst := by simp [ho]
    have h2 : ((L.map (·.1)).map some)[i]? = some (some p.1) := by simp [hp]
    rw [hd1, h2] at h1
    exact (Option.some.inj h1).symm
  have hdist : ∀ (i j : Nat) p q, L[i]? = some p → L[j]? = some q → p.1 = q.1 → i = j := by
    intro i j p q hi hj h
    have h1 : i < (L.map (·.1)).length := by have := (List.getElem?_eq_some_iff.1 hi).1; simpa using this
    have h2 : j < (L.map (·.1)).length := by have := (List.getElem?_eq_some_iff.1 hj).1; simpa using this
    refine nodup_inj hnd i j h1 h2 ?_
    have e1 : L[i]'(by simpa using h1) = p := (List.getElem?_eq_some_iff.1 hi).2
    have e2 : L[j]'(by simpa using h2) = q := (List.getElem?_eq_some_iff.1 hj).2
    simp [e1, e2, h]
  refine wpAny_inv (fun listed a w => I w ∧ a.tmps.size = n ∧ a.defers = a0.defers ∧ (∀ t, t ∉ L.map (·.1) → a.eval (.tmp t) = a0.eval (.tmp t)) ∧ ∀ (i : Nat) p, L[i]? = some p → listed.getD i false = true → a.eval (.tmp p.1) = p.2) (acycB_spec hacyc) ?_ ?_ _ _ _ _ (by simp) (by simp) ⟨h0, hn, rfl, fun t _ => rfl, fun i p hp h => ?_⟩
  · rintro listed a w i o ⟨hI, hs, hdf, hfr, hg⟩ hls ho hdeps
    have hi : i < ops.size := (Array.getElem?_eq_some_iff.1 ho).1
    have hp : L[i]? = some (L[i]'(by omega)) := List.getElem?_eq_getElem (by omega)
    generalize L[i]'(by omega) = p at hp
    have hmem : p ∈ L := List.mem_of_getElem? hp
    refine step i o p ho hp a w hI hdf (fun e he hb q hq => hg e.on q hq (hdeps e he hb)) hfr _ ?_
    intro w' hI'
    rw [hop i o p ho hp]
    refine ⟨hI', by simpa [Act.put] using hs, hdf, fun t ht => ?_, fun j q hj hlj => ?_⟩
    · rw [eval_put_far _ _ _ _ (fun e => ht (List.mem_map.2 ⟨p, hmem, e.symm⟩))]
      exact hfr t ht
    · by_cases e : j = i
      · subst e
        rw [hp] at hj
        cases hj
        exact eval_put_self _ _ _ (by have := hsz p hmem; omega)
      · rw [eval_put_far _ _ _ _ (fun e' => e (hdist j i q p hj hp e'))]
        refine hg j q hj ?_
        rwa [getD_set_ne false (fun h => e h.symm)] at hlj
  · rintro listed a w ⟨hI, hs, hdf, hfr, hg⟩ hall
    have : a = puts L a0 := by
      refine act_ext (by rw [puts_size, hs, hn]) (by rw [puts_defers, hdf]) (fun t ht => ?_)
      by_cases hm : t ∈ L.map (·.1)
      · obtain ⟨p, hp, rfl⟩ := List.mem_map.1 hm
        rw [puts_in L a0 hnd (fun q hq => by have := hsz q hq; omega) p hp]
        obtain ⟨i, hi⟩ := List.mem_iff_getElem?.1 hp
        exact hg i p hi (hall i (by have := (List.getElem?_eq_some_iff.1 hi).1; omega))
      · rw [puts_far L a0 t hm]
        exact hfr t hm
    rw [this]
    exact fin w hI
  · have : i < ops.size := by have := (List.getElem?_eq_some_iff.1 hp).1; omega
    simp [this] at h

theorem wpOp_run {i : Nat} {o : Oper} {a : Act} {w : World} {K : Act → World → Prop} (ho : ops[i]? = some o) (hw : Region.wanted o (yielded ops a.tmps) = true) (h : o.wp P a w K Q) : wpOp P ops Q i K a w := by
  unfold wpOp
  simp only [ho]
  rw [if_pos hw]
  exact .inl h
theorem wpOp_skip {i : Nat} {o : Oper} {a : Act} {w : World} {K : Act → World → Prop} (ho : ops[i]? = some o) (hw : Region.wanted o (yielded ops a.tmps) = false) (h : K (a.put o.dst undef) w) : wpOp P ops Q i K a w := by
  unfold wpOp
  simp only [ho]
  rw [hw]
  exact h
theorem yielded_of {a : Act} {j d : Nat} {b : Bool} (hj : (ops[j]?).bind (·.dst) = some d) (h : a.eval (.tmp d) = .bool b) : yielded ops a.tmps j = some b := by
  unfold yielded
  rw [hj]
  simp only [Act.eval] at h
  cases ht : a.tmps[d]? with
  | none => simp [ht, undef] at h
  | some v =>
    simp [ht] at h
    subst h
    simp [ht]
end
end Go.Proofs.Ytkgfogepbclhkaa.Vals
