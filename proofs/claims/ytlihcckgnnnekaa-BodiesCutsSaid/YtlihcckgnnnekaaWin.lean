/-
  A slice that is a window into a row of the program's own: cut at its front ('s = s[1:]'), lengthened at its end ('append'): its laws. Program apart.
-/
import Derived.Test.YtlihcckgnnnekaaTurn
import Derived.ArgAppend
import Derived.Laws.AppendOwn
import Derived.Laws.IdiomCopy
import Derived.Deep.MidRow
namespace Go.Proofs.Ytlihcckgnnnekaa
open Go.RowKit
set_option linter.unusedVariables false

/-- The slice of this address, length and capacity holds these cells, in block g; where it has no capacity there is no block. -/
def Win (w : World) (sz : Nat) (g : Option Nat) (a : Option Addr) (n c : Nat) (flat : List Value) : Prop :=
  flat.length = n * sz ∧ n ≤ c ∧ ((c = 0 ∧ g = none) ∨ ∃ gb off, g = some gb ∧ a = some ⟨gb, off, none⟩ ∧ gb < w.heap.size ∧ (∀ j, j < c * sz → (w.cell? ⟨gb, off + j, none⟩).isSome = true) ∧
    (∀ (j : Nat) v, flat[j]? = some v → w.cell? ⟨gb, off + j, none⟩ = some v) ∧ ∀ i, w.frozen? ⟨gb, i, none⟩ = false)

section
variable {w : World} {sz n c : Nat} {g : Option Nat} {a : Option Addr} {flat : List Value}

theorem Win.nil (w : World) (sz : Nat) (a : Option Addr) : Win w sz none a 0 0 [] := ⟨by simp, Nat.le_refl _, .inl ⟨rfl, rfl⟩⟩
theorem Win.turn (h : Win w sz g a n c flat) {w' : World} {bs : List Nat} (ht : Turn bs w w') (hn : ∀ k, g = some k → k ∉ bs) : Win w' sz g a n c flat := by
  obtain ⟨h1, h2, h3⟩ := h
  refine ⟨h1, h2, ?_⟩
  rcases h3 with h3 | ⟨gb, off, rfl, ha, hlt, hc, hf, hz⟩
  · exact .inl h3
  · refine .inr ⟨gb, off, rfl, ha, Nat.lt_of_lt_of_le hlt ht.size, fun j hj => ?_, fun j v hv => ?_, fun i => ?_⟩
    · rw [ht.cell (p := ⟨gb, off + j, none⟩) hlt (hn gb rfl)]; exact hc j hj
    · rw [ht.cell (p := ⟨gb, off + j, none⟩) hlt (hn gb rfl)]; exact hf j v hv
    · rw [ht.frozen (p := ⟨gb, i, none⟩) hlt (hn gb rfl)]; exact hz i
theorem Win.lt (h : Win w sz g a n c flat) : ∀ k, g = some k → k < w.heap.size := by
  intro k hk
  rcases h.2.2 with ⟨_, h3⟩ | ⟨gb, off, h3, ha, hlt, _⟩
  · rw [h3] at hk; cases hk
  · rw [h3] at hk; cases hk; exact hlt
theorem Win.some_of (h : Win w sz g a n c flat) (hn : 0 < n) : ∃ gb off, g = some gb ∧ a = some ⟨gb, off, none⟩ ∧ gb < w.heap.size ∧ (∀ j, j < c * sz → (w.cell? ⟨gb, off + j, none⟩).isSome = true) ∧
    (∀ (j : Nat) v, flat[j]? = some v → w.cell? ⟨gb, off + j, none⟩ = some v) ∧ ∀ i, w.frozen? ⟨gb, i, none⟩ = false := by
  rcases h.2.2 with ⟨h3, _⟩ | h3
  · have := h.2.1; omega
  · exact h3

theorem Turn.setCells {bs : List Nat} {b : Nat} (hb : b ∈ bs) : ∀ (vs : List Value) (o : Nat) {w0 w1 : World}, Turn bs w0 w1 → Turn bs w0 (w1.setCells b o vs)
  | [], _, _, _, h => h
  | v :: r, o, _, w1, h => by
    unfold World.setCells
    exact Turn.setCells hb r (o + 1) (h.setCell (p := ⟨b, o, none⟩) hb v)

theorem Win.of_owns {base e : Nat} {v : Value} (h : w.ownsRow base e sz v n flat) (h0 : 0 < n) : ∃ gb c', v = .slice (some ⟨gb, 0, none⟩) n c' ∧ base ≤ gb ∧ Win w sz (some gb) (some ⟨gb, 0, none⟩) n c' flat := by
  obtain ⟨h1, h2⟩ := h
  rcases h2 with ⟨_, h2⟩ | ⟨gb, cap, cur, rfl, hb, hg, hn, hm, hs, ht⟩
  · omega
  · refine ⟨gb, cap, rfl, hb, h1, hn, .inr ⟨gb, 0, rfl, rfl, (Array.getElem?_eq_some_iff.1 hg).1, fun j hj => ?_, fun j u hu => ?_, fun i => by simp [World.frozen?, hg]⟩⟩
    · rw [cell_of_row w gb _ _ _ (0, 0) hg]
      simp [hs]; exact hj
    · rw [cell_of_row w gb _ _ _ (0, 0) hg]
      rw [← ht, List.getElem?_take] at hu
      split at hu
      · simpa using hu
      · cases hu

/-- 'append' of one element. -/
theorem Win.append {P : Program} (h : Win w sz g a n c flat) (t e : TypeId) (i : TypeInfo) (z : Value) (bytes : Nat) (ht : P.underlying t = some (.slice e)) (hi : P.info? e = some i) (hz : i.zero = some z)
    (hsize : i.size = sz) (hby : i.bytes = bytes) (hby2 : bytes ≤ 64) (hzs : z.cells.size = sz) (hsz : 0 < sz)
    (ad : Addr) (cc : Nat) (news : List Value) (hl : news.length = sz) (hnews : ∀ j u, news[j]? = some u → w.cell? (ad.add j) = some u) (h1 : ∀ u ∈ news, u.oneCell' = true) (hn : n ≤ 1048576) (ha : c = 0 → a = none → True) :
    ∃ a' c' w' g', (Builtin.append_ #[t, t] t #[.slice a n c, .slice (some ad) 1 cc]).run P w = .ok (.slice a' (n + 1) c') w' ∧ Win w' sz g' a' (n + 1) c' (flat ++ news) ∧ Turn g.toList w w' ∧
      (∀ k, g' = some k → g = some k ∨ w.heap.size ≤ k) := by
  obtain ⟨hf, hnc, h3⟩ := h
  have hm1 : n + 1 ≤ maxLen := by unfold maxLen; omega
  have hb1 : (n + 1) * bytes ≤ 140737488355328 := by
    have : (n + 1) * bytes ≤ 1048577 * 64 := Nat.mul_le_mul (by omega) hby2
    omega
  by_cases hroom : n + 1 ≤ c
  · rcases h3 with ⟨h3, _⟩ | ⟨gb, off, rfl, rfl, hlt, hc, hfl, hfz⟩
    · omega
    · have hcs : (n + 1) * sz ≤ c * sz := Nat.mul_le_mul_right _ hroom
      have hcs2 : n * sz + sz ≤ c * sz := by rw [Nat.add_mul, Nat.one_mul] at hcs; exact hcs
      have hrun := run_append_room_cells (P := P) w t t e i ht hi gb off n c ad 1 cc news (by rw [hsize]; omega) hnews h1 hroom
        (fun j hj => by rw [hsize, Nat.add_assoc]; exact hc _ (by omega)) (fun j hj => hfz _)
      rw [hsize] at hrun
      refine ⟨_, _, _, some gb, hrun, ⟨by rw [List.length_append, hf, hl, Nat.add_mul, Nat.one_mul], hroom, .inr ⟨gb, off, rfl, rfl, ?_, fun j hj => ?_, fun j v hv => ?_, fun i => ?_⟩⟩, ?_, fun k hk => .inl hk⟩
      · have := (Turn.setCells (bs := [gb]) (b := gb) (by simp) news (off + n * sz) (Turn.refl [gb] w)).size
        omega
      · by_cases hj2 : off + n * sz ≤ off + j ∧ off + j < off + n * sz + news.length
        · obtain ⟨k, rfl⟩ : ∃ k, j = n * sz + k := ⟨j - n * sz, by omega⟩
          rw [← Nat.add_assoc, World.cell?_setCells_in gb news (off + n * sz) w (fun j hj => by rw [Nat.add_assoc]; exact hc _ (by omega)) k (by omega)]
          rfl
        · rw [World.cell?_setCells_out gb news _ w _ (fun _ _ => by simp only; omega)]
          exact hc j hj
      · by_cases hj2 : j < flat.length
        · rw [List.getElem?_append_left hj2] at hv
          rw [World.cell?_setCells_out gb news _ w _ (fun _ _ => by simp only; omega)]
          exact hfl j v hv
        · rw [List.getElem?_append_right (by omega)] at hv
          have hk := (List.getElem?_eq_some_iff.1 hv).1
          obtain ⟨k, rfl⟩ : ∃ k, j = n * sz + k := ⟨j - n * sz, by omega⟩
          rw [← Nat.add_assoc, World.cell?_setCells_in gb news (off + n * sz) w (fun j hj => by rw [Nat.add_assoc]; exact hc _ (by omega)) k (by omega)]
          have e1 : n * sz + k - flat.length = k := by omega
          rw [e1] at hv
          rw [← hv]
          exact (List.getElem?_eq_getElem (by omega)).symm
      · rw [World.frozen?_setCells]; exact hfz i
      · exact Turn.setCells (by simp) news _ (Turn.refl _ _)
  · have hfull : c < n + 1 := by omega
    cases a with
    | none =>
      have hc0 : c = 0 := by
        rcases h3 with ⟨h3, _⟩ | ⟨gb, off, rfl, h3, _⟩
        · exact h3
        · cases h3
      have hn0 : n = 0 := by omega
      subst hc0 hn0
      have hfe : flat = [] := List.eq_nil_of_length_eq_zero (by simpa using hf)
      subst hfe
      obtain ⟨v', w', hrun, hown, hgr, _⟩ := run_append_own (P := P) w w.heap.size t t e i z sz bytes ht hi hz hsize hby hzs hsz (.slice none 0 0) 0 [] (World.ownsRow_nil _ _ _ _) ad 1 cc news (by omega) hnews h1 hm1 hb1 (Nat.le_refl _)
      obtain ⟨gb, c', rfl, hge, hwin⟩ := Win.of_owns hown (by omega)
      exact ⟨_, _, _, _, hrun, by simpa using hwin, (Turn.refl _ _).grown hgr (fun k hk => by simp [Value.ownBlock] at hk), fun k hk => .inr (by cases hk; exact hge)⟩
    | some b =>
      have holds : ∀ j u, flat[j]? = some u → w.cell? (b.add j) = some u := by
        rcases h3 with ⟨h3, _⟩ | ⟨gb, off, rfl, h3, hlt, hc, hfl, hfz⟩
        · intro j u hu
          have := (List.getElem?_eq_some_iff.1 hu).1
          have : n = 0 := by omega
          subst this
          simp at hf
          subst hf
          simp at hu
        · cases h3
          intro j u hu
          rw [Addr.add_lit]
          exact hfl j u hu
      obtain ⟨v', w', hrun, hown, hgr⟩ := run_append_arg_grows (P := P) w t t e i z sz bytes ht hi hz hsize hby hzs hsz b n c flat hf holds ad 1 cc news (by omega) hnews hfull hm1 hb1
      obtain ⟨gb, c', rfl, hge, hwin⟩ := Win.of_owns hown (by omega)
      exact ⟨_, _, _, _, hrun, hwin, (Turn.refl _ _).grown hgr (fun k hk => by cases hk), fun k hk => .inr (by cases hk; exact hge)⟩
end

/-- The window without its first element, of one cell. -/
theorem Win.tail {w : World} {n c gb off : Nat} {v : Value} {vs : List Value} (h : Win w 1 (some gb) (some ⟨gb, off, none⟩) (n + 1) c (v :: vs)) :
    ∃ g', Win w 1 g' (if c = 1 then some ⟨gb, off, none⟩ else some ⟨gb, off + 1, none⟩) n (c - 1) vs ∧ ∀ k, g' = some k → some gb = some k := by
  obtain ⟨h1, h2, h3⟩ := h
  rcases h3 with ⟨h3, _⟩ | ⟨gb', off', he, ha, hlt, hc, hf, hz⟩
  · omega
  · cases he
    cases ha
    by_cases e : c = 1
    · subst e
      refine ⟨none, ⟨by simpa using h1, by omega, .inl ⟨rfl, rfl⟩⟩, fun k hk => by cases hk⟩
    · refine ⟨some gb, ⟨by simpa using h1, by omega, .inr ⟨gb, off + 1, rfl, by rw [if_neg e], hlt, fun j hj => ?_, fun j u hu => ?_, hz⟩⟩, fun k hk => hk⟩
      · have := hc (j + 1) (by omega)
        rwa [show off + (j + 1) = off + 1 + j by omega] at this
      · have := hf (j + 1) u (by simpa using hu)
        rwa [show off + (j + 1) = off + 1 + j by omega] at this
/-- A store over the first element, of one cell. -/
theorem Win.setHead {w : World} {n c gb off : Nat} {v x : Value} {vs : List Value} (h : Win w 1 (some gb) (some ⟨gb, off, none⟩) (n + 1) c (v :: vs)) :
    Win (w.setCell ⟨gb, off, none⟩ x) 1 (some gb) (some ⟨gb, off, none⟩) (n + 1) c (x :: vs) := by
  obtain ⟨h1, h2, h3⟩ := h
  rcases h3 with ⟨h3, _⟩ | ⟨gb', off', he, ha, hlt, hc, hf, hz⟩
  · omega
  · cases he
    cases ha
    have hh : (w.cell? ⟨gb, off, none⟩).isSome = true := by have := hc 0 (by omega); simpa using this
    refine ⟨by simpa using h1, h2, .inr ⟨gb, off, rfl, rfl, by simpa [World.setCell] using hlt, fun j hj => ?_, fun j u hu => ?_, fun i => ?_⟩⟩
    · by_cases e : j = 0
      · subst e
        simp only [Nat.add_zero]
        rw [World.cell?_setCell_same' w ⟨gb, off, none⟩ x hh]; rfl
      · rw [World.cell?_setCell_other _ _ _ _ (fun h => by have := congrArg Addr.off h; simp at this; omega)]
        exact hc j hj
    · cases j with
      | zero =>
        simp only [Nat.add_zero]
        rw [World.cell?_setCell_same' w ⟨gb, off, none⟩ x hh]
        simpa using hu
      | succ j =>
        rw [World.cell?_setCell_other _ _ _ _ (fun h => by have := congrArg Addr.off h; simp at this)]
        exact hf (j + 1) u (by simpa using hu)
    · rw [World.frozen?_setCell]; exact hz i

/-- 'append' by a known run. -/
theorem wpList_append_run {P : Program} {w : World} {ops : Array Oper} {rest : List Oper} {o : Oper} {a : Act} {Q : Exit → Act → World → Prop} (hg : o.guard = none) (s x : Operand) (t : TypeId)
    (hop : o.op = Op.call { callee := Callee.builtin Builtin.append, args := #[s, x], argTypes := #[t, t] }) (vs vx v' : Value) (w' : World) (hs : a.eval s = vs) (hx : a.eval x = vx)
    (hrun : (Builtin.append_ #[t, t] o.type #[vs, vx]).run P w = .ok v' w') (hK : wpList P ops Q rest (a.put o.dst v') w') : wpList P ops Q (o :: rest) a w := by
  refine wpList_plain hg fun K hK' => ?_
  unfold Oper.wp
  simp only [execOp, hop, resolve, invoke, builtin, Sem.run_bind, Sem.run_pure, Result.andThen_ok, List.map_toArray, List.map_cons, List.map_nil, hs, hx, hrun]
  exact hK' _ _ hK
/-- The same as a step of a region that draws ('go_region_law'). -/
theorem step_append_run {P : Program} {ops : Array Oper} {o : Oper} {a : Act} {w : World} {K : Act → World → Prop} {Q : Exit → Act → World → Prop} {E : Prop}
    (hg : o.guard = none) (s x : Operand) (t : TypeId) (hop : o.op = Op.call { callee := Callee.builtin Builtin.append, args := #[s, x], argTypes := #[t, t] }) (vs vx v' : Value) (w' : World)
    (hs : a.eval s = vs) (hx : a.eval x = vx) (hrun : (Builtin.append_ #[t, t] o.type #[vs, vx]).run P w = .ok v' w') (hK : K (a.put o.dst v') w') :
    if Region.wanted o (yielded ops a.tmps) = true then Oper.wp P o a w K Q else E := by
  have hw : Region.wanted o (yielded ops a.tmps) = true := by simp [Region.wanted, hg]
  rw [if_pos hw]
  unfold Oper.wp
  simp only [execOp, hop, resolve, invoke, builtin, Sem.run_bind, Sem.run_pure, Result.andThen_ok, List.map_toArray, List.map_cons, List.map_nil, hs, hx, hrun]
  exact hK
end Go.Proofs.Ytlihcckgnnnekaa
