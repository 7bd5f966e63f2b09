/-
  A region that draws its order, met by what each of its operations leaves behind: one look at each operation, in place of one at each order.
-/
import Derived.Test.YtinkelehdmlmfaaBase
import Derived.Orders
import Derived.RegionTactic
namespace Go.Proofs.Ytinkelehdmlmfaa
open Go.RowKit
set_option linter.unusedVariables false

theorem count_set_lt (l : List Bool) (i : Nat) (h : l[i]? = some false) : (l.set i true).count false + 1 = l.count false := by
  induction l generalizing i with
  | nil => simp at h
  | cons x l ih =>
    cases i with
    | zero => simp at h; subst h; simp
    | succ i =>
      simp at h
      have := ih i h
      simp [List.count_cons]
      omega

section
variable {P : Program} {md : Region.Mode} {ops : Array Oper} {Q : Exit → Act → World → Prop}

theorem all_listed {listed : Array Bool} (hs : listed.size = ops.size) (hacyc : ∀ (i : Nat) o, ops[i]? = some o → ∀ e ∈ o.after, Region.binds md e = true → e.on < i) (hr : Region.ready md ops listed = []) :
    ∀ i, i < ops.size → listed.getD i false = true := by
  intro i
  induction i using Nat.strongRecOn with
  | ind i ih =>
    intro hi
    cases hl : listed.getD i false with
    | true => rfl
    | false =>
      exfalso
      have hm : i ∈ Region.ready md ops listed := by
        rw [mem_ready]
        refine ⟨?_, ops[i], by simp [hi], fun e he hb => ih e.on (hacyc i _ (by simp [hi]) e he hb) (Nat.lt_trans (hacyc i _ (by simp [hi]) e he hb) hi)⟩
        have h2 : i < listed.size := by omega
        simp [h2] at hl ⊢
        exact hl
      rw [hr] at hm
      cases hm

theorem wpAny_inv (I : Array Bool → Act → World → Prop) (hacyc : ∀ (i : Nat) o, ops[i]? = some o → ∀ e ∈ o.after, Region.binds md e = true → e.on < i)
    (step : ∀ listed a w (i : Nat) o, I listed a w → listed.size = ops.size → ops[i]? = some o → (∀ e ∈ o.after, Region.binds md e = true → listed.getD e.on false = true) → wpOp P ops Q i (I (listed.setIfInBounds i true)) a w)
    (fin : ∀ listed a w, I listed a w → (∀ i, i < ops.size → listed.getD i false = true) → Q .normal a w) :
    ∀ (fuel : Nat) (listed : Array Bool) (a : Act) (w : World), listed.size = ops.size → listed.toList.count false ≤ fuel → I listed a w → wpAny P md ops Q fuel listed a w := by
  intro fuel
  induction fuel with
  | zero =>
    intro listed a w hs hc hI
    have hall : ∀ i, i < ops.size → listed.getD i false = true := by
      intro i hi
      cases hl : listed.getD i false with
      | true => rfl
      | false =>
        exfalso
        have h2 : i < listed.size := by omega
        have h3 : (false : Bool) ∈ listed.toList := by
          simp [h2] at hl
          rw [← hl]
          simp
        have := List.count_pos_iff.2 h3
        omega
    refine ⟨?_, fin listed a w hI hall⟩
    cases hr : Region.ready md ops listed with
    | nil => rfl
    | cons i rest =>
      exfalso
      have hm : i ∈ Region.ready md ops listed := by rw [hr]; simp
      obtain ⟨h0, o, ho, _⟩ := mem_ready.1 hm
      have hi : i < ops.size := (Array.getElem?_eq_some_iff.1 ho).1
      have h1 := hall i hi
      have h2 : i < listed.size := by omega
      simp [h2] at h0 h1
      rw [h0] at h1
      cases h1
  | succ fuel ih =>
    intro listed a w hs hc hI
    refine ⟨fun hr => fin listed a w hI (all_listed hs hacyc hr), fun i hi => ?_⟩
    obtain ⟨h0, o, ho, hd⟩ := mem_ready.1 hi
    have hlt : i < ops.size := (Array.getElem?_eq_some_iff.1 ho).1
    have h2 : i < listed.size := by omega
    refine wpOp_mono (fun a' w' hI' => ih _ a' w' (by simp [hs]) ?_ hI') (step listed a w i o hI hs ho hd)
    have h3 : listed.toList[i]? = some false := by
      simp [h2] at h0
      simp [h2, h0]
    have := count_set_lt _ _ h3
    simp
    omega

/-- Nothing that was there turns its cells. -/
def Ext (w w' : World) : Prop := w.heap.size ≤ w'.heap.size ∧ ∀ b o, b < w.heap.size → w'.cell? ⟨b, o, none⟩ = w.cell? ⟨b, o, none⟩
theorem Ext.refl (w : World) : Ext w w := ⟨Nat.le_refl _, fun _ _ _ => rfl⟩
theorem Ext.alloc (w : World) (o : Obj) : Ext w (w.alloc o) := ⟨by simp, fun b k h => World.cell?_of_block (w := w) (Below.heap_alloc w o b h)⟩
theorem Ext.below {w w' : World} (h : Below w.heap.size w w') : Ext w w' := ⟨h.size, fun b o hb => h.cell (p := ⟨b, o, none⟩) hb⟩

theorem eval_put_self (a : Act) (d : Nat) (v : Value) (h : d < a.tmps.size) : (a.put (some d) v).eval (.tmp d) = v := by
  simp [Act.eval, Act.put, h]

/-- Each operation comes behind those that it waits for. -/
def acycB (md : Region.Mode) (ops : Array Oper) : Bool := (List.range ops.size).all fun i => match ops[i]? with
  | some o => o.after.all fun e => !Region.binds md e || decide (e.on < i)
  | none => true
theorem acycB_spec (h : acycB md ops = true) : ∀ (i : Nat) o, ops[i]? = some o → ∀ e ∈ o.after, Region.binds md e = true → e.on < i := by
  intro i o ho e he hb
  unfold acycB at h
  have h1 := List.all_eq_true.1 h i (List.mem_range.2 (Array.getElem?_eq_some_iff.1 ho).1)
  simp only [ho] at h1
  have h2 := Array.all_eq_true_iff_forall_mem.1 h1 e he
  simpa [hb] using h2

/-- Operation i writes slot dst i. -/
def dstB (ops : Array Oper) (dst : Nat → Nat) (n : Nat) : Bool := (List.range ops.size).all fun i => match ops[i]? with
  | some o => o.dst == some (dst i) && decide (dst i < n)
  | none => true
theorem dstB_spec {dst : Nat → Nat} {n : Nat} (h : dstB ops dst n = true) : ∀ (i : Nat) o, ops[i]? = some o → o.dst = some (dst i) ∧ dst i < n := by
  intro i o ho
  unfold dstB at h
  have h1 := List.all_eq_true.1 h i (List.mem_range.2 (Array.getElem?_eq_some_iff.1 ho).1)
  simp only [ho] at h1
  simpa using h1

/-- What each operation leaves behind: G i v w: the value v of operation i is good in the world w. -/
theorem wpAny_good (G : Nat → Value → World → Prop) (dst : Nat → Nat) (n : Nat) (B : World)
    (hacyc : ∀ (i : Nat) o, ops[i]? = some o → ∀ e ∈ o.after, Region.binds md e = true → e.on < i)
    (hdst : ∀ (i : Nat) o, ops[i]? = some o → o.dst = some (dst i) ∧ dst i < n)
    (hinj : ∀ i j, i < ops.size → j < ops.size → dst i = dst j → i = j)
    (mono : ∀ j v w w', G j v w → Ext w w' → G j v w')
    (step : ∀ a w (i : Nat) o, ops[i]? = some o → Below B.heap.size B w → (∀ e ∈ o.after, Region.binds md e = true → G e.on (a.eval (.tmp (dst e.on))) w) →
      ∀ K : Act → World → Prop, (∀ v w', Ext w w' → Below B.heap.size B w' → G i v w' → K (a.put o.dst v) w') → wpOp P ops Q i K a w)
    (fin : ∀ a w, Below B.heap.size B w → a.defers = [] → (∀ i, i < ops.size → G i (a.eval (.tmp (dst i))) w) → Q .normal a w)
    (a : Act) (w : World) (hb : Below B.heap.size B w) (hs : a.tmps.size = n) (hd : a.defers = []) :
    wpAny P md ops Q ops.size (Array.replicate ops.size false) a w := by
  refine wpAny_inv (fun listed a w => Below B.heap.size B w ∧ a.tmps.size = n ∧ a.defers = [] ∧ ∀ i, i < ops.size → listed.getD i false = true → G i (a.eval (.tmp (dst i))) w) hacyc ?_ ?_ _ _ _ _ (by simp) (by simp) ⟨hb, hs, hd, fun i hi h => by simp [hi] at h⟩
  · rintro listed a w i o ⟨hb, hs, hd, hg⟩ hls ho hdeps
    have hi : i < ops.size := (Array.getElem?_eq_some_iff.1 ho).1
    obtain ⟨hd1, hd2⟩ := hdst i o ho
    refine step a w i o ho hb (fun e he hbd => hg e.on (Nat.lt_trans (hacyc i o ho e he hbd) hi) (hdeps e he hbd)) _ ?_
    intro v w' hext hb' hgi
    rw [hd1]
    refine ⟨hb', by simpa [Act.put] using hs, hd, fun j hj hlj => ?_⟩
    by_cases e : j = i
    · subst e
      rw [eval_put_self _ _ _ (by omega)]
      exact hgi
    · rw [Act.eval_put (fun d h1 h2 => e (hinj j i hj hi ((Operand.tmp.inj h2).trans (Option.some.inj h1).symm)))]
      refine mono j _ w w' (hg j hj ?_) hext
      rwa [getD_set_ne false (fun h => e h.symm)] at hlj
  · rintro listed a w ⟨hb, hs, hd, hg⟩ hall
    exact fin a w hb hd (fun i hi => hg i hi (hall i hi))

theorem wpOp_run {i : Nat} {o : Oper} {a : Act} {w : World} {K : Act → World → Prop} (ho : ops[i]? = some o) (hw : Region.wanted o (yielded ops a.tmps) = true) (h : o.wp P a w K Q) : wpOp P ops Q i K a w := by
  unfold wpOp
  simp only [ho]
  rw [if_pos hw]
  exact .inl h

theorem yielded_of {a : Act} {j d : Nat} {b : Bool} (hj : (ops[j]?).bind (·.dst) = some d) (h : a.eval (.tmp d) = .bool b) : yielded ops a.tmps j = some b := by
  unfold yielded
  rw [hj]
  simp only [Act.eval] at h
  cases ht : a.tmps[d]? with
  | none => simp [ht, undef] at h
  | some v =>
    simp [ht] at h
    subst h
    simp [ht]
end
end Go.Proofs.Ytinkelehdmlmfaa
