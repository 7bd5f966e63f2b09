/-
  A range over a function whose rounds lean on what the iterator lays in memory: what the iterator owes, and the caller's law. Program apart.
-/
import Derived.RangeFuncNested
import Derived.RangeFuncBound
import Derived.RangeFuncCalls
import Derived.RangeFuncLeaves
import Derived.OwnWalkIn
namespace Go.Proofs.Ytnndlpbbllmpjaa.Iter
open Go.RowKit
set_option linter.unusedVariables false

section
variable {F : Fence} {n : Nat} {P : Program} {α : Type}

/-- What is so abides new blocks. -/
def Stays {β : Type} (J : β → World → Prop) : Prop := ∀ s A B, J s A → Below A.heap.size A B → J s B
/-- The iterator's word: each x that it hands on, behind 'pre', is as X says (from the world where 'pre' had come to the one where it is handed on); when it ends by itself, all that has come is as S says. -/
def Seq (F : Fence) (n : Nat) (P : Program) (g : Nat) (lb : Array Value) (encs : α → Array Value) (Mem : World → Prop) (X : List α → α → World → World → Prop) (S : List α → Prop) : Prop :=
  ∀ (l : Nat) (J Jx : List α → World → Prop) (W : World), Stays J → (∀ s A, J s A → Mem A) →
    (∀ pre x W0 W1, J pre W0 → Below W0.heap.size W0 W1 → X pre x W0 W1 → YieldAt F (n - 1) P l (encs x) W1 fun e W' =>
      (e = .returned (.bool true) ∧ J (pre ++ [x]) W') ∨ (e = .returned (.bool false) ∧ Jx (pre ++ [x]) W')) →
    J [] W →
    CallsIn F n P g (#[.func (.yield l) #[] #[]] ++ lb) W fun e W' => (∃ v, e = .returned v) ∧ ((∃ xs, S xs ∧ J xs W') ∨ (∃ pre, Jx pre W'))

/-- How a round's body may be left: the two blocks of the loop lie as they lay. -/
def post (D : Nat) (I : List α → World → Prop) (Ix : Code → List α → World → Prop) (xs : List α) (W : World) : Exit → Act → World → Prop
  | .normal, _, W' => (W'.heap[D]? = W.heap[D]? ∧ W'.heap[D + 1]? = W.heap[D + 1]?) ∧ I xs W'
  | .ret, _, W' => (W'.heap[D]? = W.heap[D]? ∧ W'.heap[D + 1]? = W.heap[D + 1]?) ∧ Ix .ret xs W'
  | .exit id, _, W' => (W'.heap[D]? = W.heap[D]? ∧ W'.heap[D + 1]? = W.heap[D + 1]?) ∧ Ix (.exit id) xs W'
  | .goto t, _, W' => (W'.heap[D]? = W.heap[D]? ∧ W'.heap[D + 1]? = W.heap[D + 1]?) ∧ Ix (.goto t) xs W'
  | .panic _, _, _ => False
  | .outgrown, _, _ => False
/-- What is so abides a turn of the loop's record. -/
def Turns {β : Type} (D : Nat) (J : β → World → Prop) : Prop := ∀ s A (o o' : Obj), J s A → A.heap[D + 1]? = some o → o.isCells = false → J s (A.putObj (D + 1) o')

theorem wpIn_range {g : Operand} {ps : Array Tmp} {assign body : Code} {Q : Exit → Act → World → Prop} {a : Act} {w : World} (hro : F.round = none) (h1 : 1 ≤ n) {gf : Nat} {lb : Array Value} (hg : a.eval g = .func (.func gf) #[] lb) (hFg : F.fn gf) (eg : ∀ args w, (callFunc gf args).run P w = .ok (.enter gf args) w)
    {encs : α → Array Value} {Mem : World → Prop} {X : List α → α → World → World → Prop} {S : List α → Prop} (hseq : Seq F (n - 1) P gf lb encs Mem X S) (hps : ∀ x, (encs x).size = ps.size)
    (I : List α → World → Prop) (Ix : Code → List α → World → Prop) (hI : Stays I) (hT : Turns w.heap.size I) (hTx : ∀ c, Turns w.heap.size (Ix c)) (hMem : ∀ s A, I s A → Mem A) (h0 : I [] w)
    (hround : ∀ (pre : List α) (x : α) (W0 W1 : World), I pre W0 → Below W0.heap.size W0 W1 → X pre x W0 W1 → w.heap.size + 1 < W1.heap.size →
      assign.wpIn (F.inRound (w.heap.size + 1)) (n - 1 - 1) P (Exit.then (fun a1 Wa => (Wa.heap[w.heap.size]? = W1.heap[w.heap.size]? ∧ Wa.heap[w.heap.size + 1]? = W1.heap[w.heap.size + 1]?) ∧ ∀ (r r' : Loop), Wa.heap[w.heap.size + 1]? = some (.loop r) →
        body.wpIn (F.inRound (w.heap.size + 1)) (n - 1 - 1) P (post w.heap.size I Ix (pre ++ [x]) (Wa.putObj (w.heap.size + 1) (.loop r'))) a1 (Wa.putObj (w.heap.size + 1) (.loop r'))) (fun _ _ _ => False))
        { tmps := (ps.zip (encs x)).foldl (fun t (p, v) => t.setIfInBounds p v) a.tmps, defers := [] } W1)
    (hdone : ∀ (xs : List α) (W : World), S xs → I xs W → W.heap[w.heap.size]? = some (.deferred (some [])) → Q .normal { a with defers := { target := .collected w.heap.size, args := #[] } :: a.defers } W)
    (hstop : ∀ (c : Code) (pre : List α) (W : World), Ix c pre W → W.heap[w.heap.size]? = some (.deferred (some [])) → c.wpIn F n P Q { a with defers := { target := .collected w.heap.size, args := #[] } :: a.defers } W) :
    (Code.rangeFunc g ps assign body).wpIn F n P Q a w := by
  generalize hD : w.heap.size = D at *
  refine wpIn_rangeFunc fun fn hfn => ?_
  rw [hro]
  obtain ⟨rec, hrec⟩ : ∃ rec : LoopState → Option Code → Loop, rec = fun st pe => { state := st, pending := pe, fn, tmps := a.tmps, params := ps, assign, body, defers := D } := ⟨_, rfl⟩
  obtain ⟨Wa, hWa⟩ : ∃ Wa, w.alloc (.deferred (some [])) = Wa := ⟨_, rfl⟩
  obtain ⟨Wb, hWb⟩ : ∃ Wb, Wa.alloc (.loop (rec .ready none)) = Wb := ⟨_, rfl⟩
  have ba : Below w.heap.size w Wa := by rw [← hWa]; exact (Below.refl _ w).alloc (Nat.le_refl _) _
  have bb : Below Wa.heap.size Wa Wb := by rw [← hWb]; exact (Below.refl _ Wa).alloc (Nat.le_refl _) _
  have sa : Wa.heap.size = D + 1 := by rw [← hWa]; simp [hD]
  have kL : Wb.heap[D + 1]? = some (.loop (rec .ready none)) := by rw [← hWb, ← sa]; exact World.alloc_heap_new Wa _
  have kD : Wb.heap[D]? = some (.deferred (some [])) := (bb.block D (by omega)).trans (by rw [← hWa, ← hD]; exact World.alloc_heap_new w _)
  refine ⟨D + 1, [{ target := .collected D, args := #[] }], Wb, { target := .fn (.func gf) lb, args := #[.func (.yield (D + 1)) #[] #[]] }, Wb, gf, #[.func (.yield (D + 1)) #[] #[]] ++ lb, Wb, ?_, ?_, fun f' hf' => ?_, ?_, fun _ => h1, ?_⟩
  · rw [← hWb, ← hWa, hrec, ← hD]
    exact run_enterLoop_outer _ _ _ _ _
  · simp only [resolve, hg]
    simp [go_sem]
  · simp [Target.leads] at hf'
    subst hf'
    exact hFg
  · simp [invoke, go_sem, eg]
  refine (hseq (D + 1) (fun pre W => I pre W ∧ W.heap[D + 1]? = some (.loop (rec .ready none)) ∧ W.heap[D]? = some (.deferred (some [])))
    (fun pre W => ∃ c, Ix c pre W ∧ W.heap[D + 1]? = some (.loop (rec .done (some c))) ∧ W.heap[D]? = some (.deferred (some []))) Wb ?_ (fun s A h => hMem s A h.1) ?_ ⟨hI _ _ _ (hI _ _ _ h0 ba) bb, kL, kD⟩).mono ?_
  · rintro s A B ⟨hi, hl, hd⟩ hb
    exact ⟨hI _ _ _ hi hb, (hb.block _ (Array.getElem?_eq_some_iff.1 hl).1).trans hl, (hb.block _ (Array.getElem?_eq_some_iff.1 hd).1).trans hd⟩
  · rintro pre x W0 W1 ⟨hi, hl, hd⟩ hb hx
    have hl1 := (hb.block _ (Array.getElem?_eq_some_iff.1 hl).1).trans hl
    have hd1 := (hb.block _ (Array.getElem?_eq_some_iff.1 hd).1).trans hd
    have hy := run_yield (P := P) (args := encs x) hl1 (by rw [hrec]; exact hps x)
    rw [hrec] at hy
    refine ⟨fn, _, assign, body, hy, roundIn_of_wpIn hfn (wpIn_mono (hround pre x W0 W1 hi hb hx (Array.getElem?_eq_some_iff.1 hl1).1) ?_)⟩
    clear hy
    rintro e a1 W2 hp
    cases e with
    | normal =>
      obtain ⟨⟨hk0, hk1⟩, hbody⟩ := hp
      have hl2 := hk1.trans hl1
      have hd2 := hk0.trans hd1
      refine ⟨_, run_beginRound hl2 (by rw [hrec]), wpIn_mono (hbody _ _ hl2) ?_⟩
      have hl3 : (W2.putObj (D + 1) (.loop { rec .ready none with state := .busy })).heap[D + 1]? = some (.loop { rec .ready none with state := .busy }) := World.putObj_heap_same (Array.getElem?_eq_some_iff.1 hl2).1
      have hd3 : (W2.putObj (D + 1) (.loop { rec .ready none with state := .busy })).heap[D]? = some (.deferred (some [])) := (World.putObj_heap_other (by omega)).trans hd2
      have fin : ∀ (jump : Option Code) (W4 : World), (W4.heap[D]? = (W2.putObj (D + 1) (.loop { rec .ready none with state := .busy })).heap[D]? ∧ W4.heap[D + 1]? = (W2.putObj (D + 1) (.loop { rec .ready none with state := .busy })).heap[D + 1]?) →
          (Instr.endRound (D + 1) jump).run P W4 = .ok (.bool jump.isNone) (W4.putObj (D + 1) (.loop (rec (if jump.isNone then .ready else .done) jump))) ∧ (∃ o : Obj, W4.heap[D + 1]? = some o ∧ o.isCells = false) ∧
          (W4.putObj (D + 1) (.loop (rec (if jump.isNone then .ready else .done) jump))).heap[D + 1]? = some (.loop (rec (if jump.isNone then .ready else .done) jump)) ∧ (W4.putObj (D + 1) (.loop (rec (if jump.isNone then .ready else .done) jump))).heap[D]? = some (.deferred (some [])) := by
        intro jump W4 hk
        have hl4 := hk.2.trans hl3
        have hrun := run_endRound (P := P) jump hl4
        rw [hrec] at hrun ⊢
        exact ⟨hrun, ⟨_, hl4, rfl⟩, World.putObj_heap_same (Array.getElem?_eq_some_iff.1 hl4).1, (World.putObj_heap_other (by omega)).trans (hk.1.trans hd3)⟩
      rintro e a3 W4 hq
      cases e with
      | normal =>
        obtain ⟨hk, hi4⟩ := hq
        obtain ⟨hr, ⟨o, ho, hoc⟩, q1, q2⟩ := fin none W4 hk
        exact ⟨_, _, hr, .inl ⟨rfl, hT _ _ o _ hi4 ho hoc, q1, q2⟩⟩
      | ret =>
        obtain ⟨hk, hi4⟩ := hq
        obtain ⟨hr, ⟨o, ho, hoc⟩, q1, q2⟩ := fin (some .ret) W4 hk
        exact ⟨_, _, hr, .inr ⟨rfl, .ret, hTx _ _ _ o _ hi4 ho hoc, q1, q2⟩⟩
      | exit id =>
        obtain ⟨hk, hi4⟩ := hq
        obtain ⟨hr, ⟨o, ho, hoc⟩, q1, q2⟩ := fin (some (.exit id)) W4 hk
        exact ⟨_, _, hr, .inr ⟨rfl, .exit id, hTx _ _ _ o _ hi4 ho hoc, q1, q2⟩⟩
      | goto t =>
        obtain ⟨hk, hi4⟩ := hq
        obtain ⟨hr, ⟨o, ho, hoc⟩, q1, q2⟩ := fin (some (.goto t)) W4 hk
        exact ⟨_, _, hr, .inr ⟨rfl, .goto t, hTx _ _ _ o _ hi4 ho hoc, q1, q2⟩⟩
      | panic ch => exact hq.elim
      | outgrown => exact hq.elim
    | ret => exact hp.elim
    | exit id => exact hp.elim
    | goto t => exact hp.elim
    | panic ch => exact hp.elim
    | outgrown => exact hp.elim
  · rintro e W2 ⟨⟨v, rfl⟩, (⟨xs, hS, hi, hl, hd⟩ | ⟨pre, c, hi, hl, hd⟩)⟩
    · have hrun := run_endLoop (P := P) hl (by rw [hrec]; simp)
      rw [hrec] at hrun
      exact ⟨none, _, hrun, hdone xs _ hS (hT _ _ _ _ hi hl rfl) ((World.putObj_heap_other (by omega)).trans hd)⟩
    · have hrun := run_endLoop (P := P) hl (by rw [hrec]; simp)
      rw [hrec] at hrun
      exact ⟨some c, _, hrun, hstop c pre _ (hTx _ _ _ _ _ hi hl rfl) ((World.putObj_heap_other (by omega)).trans hd)⟩
/-- 'append' by a known run, in a fenced walk. -/
theorem wpListIn_append_run {w : World} {ops : Array Oper} {rest : List Oper} {o : Oper} {a : Act} {Q : Exit → Act → World → Prop} (hg : o.guard = none) (s x : Operand) (t : TypeId)
    (hop : o.op = Op.call { callee := Callee.builtin Builtin.append, args := #[s, x], argTypes := #[t, t] }) (vs vx v' : Value) (w' : World) (hs : a.eval s = vs) (hx : a.eval x = vx)
    (hrun : (Builtin.append_ #[t, t] o.type #[vs, vx]).run P w = .ok v' w') (hK : wpListIn F n P ops Q rest (a.put o.dst v') w') : wpListIn F n P ops Q (o :: rest) a w := by
  refine wpListIn_plain hg fun K hK' => ?_
  unfold Oper.wpIn
  refine ⟨?_, ?_⟩
  · simp [Oper.about, hop, resolve, Target.leads, Sem.run_pure]
  · rw [Oper.semAt_plain F _ _ (by rw [hop]; intro c hc'; cases hc')]
    simp only [execOp, hop, resolve, invoke, builtin, Sem.run_bind, Sem.run_pure, Result.andThen_ok, List.map_toArray, List.map_cons, List.map_nil, hs, hx, hrun]
    exact hK' _ _ hK
end
end Go.Proofs.Ytnndlpbbllmpjaa.Iter
