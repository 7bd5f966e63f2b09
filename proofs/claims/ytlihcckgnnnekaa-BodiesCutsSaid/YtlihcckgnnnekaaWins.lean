/-
  'append' of some elements onto a window, and of none. Program apart.
-/
import Derived.Test.YtlihcckgnnnekaaWin
namespace Go.Proofs.Ytlihcckgnnnekaa
open Go.RowKit
set_option linter.unusedVariables false
section
variable {w : World} {sz n c : Nat} {g : Option Nat} {a : Option Addr} {flat : List Value}
/-- 'append' of some elements. -/
theorem Win.appends {P : Program} (h : Win w sz g a n c flat) (t e : TypeId) (i : TypeInfo) (z : Value) (bytes : Nat) (ht : P.underlying t = some (.slice e)) (hi : P.info? e = some i) (hz : i.zero = some z)
    (hsize : i.size = sz) (hby : i.bytes = bytes) (hby2 : bytes ≤ 64) (hzs : z.cells.size = sz) (hsz : 0 < sz)
    (ad : Addr) (cc : Nat) (m : Nat) (hm0 : 0 < m) (news : List Value) (hl : news.length = m * sz) (hnews : ∀ j u, news[j]? = some u → w.cell? (ad.add j) = some u) (h1 : ∀ u ∈ news, u.oneCell' = true) (hn : n + m ≤ 1099511627776) :
    ∃ a' c' w' g', (Builtin.append_ #[t, t] t #[.slice a n c, .slice (some ad) m cc]).run P w = .ok (.slice a' (n + m) c') w' ∧ Win w' sz g' a' (n + m) c' (flat ++ news) ∧ Turn g.toList w w' ∧
      (∀ k, g' = some k → g = some k ∨ w.heap.size ≤ k) := by
  obtain ⟨hf, hnc, h3⟩ := h
  have hm1 : n + m ≤ maxLen := by unfold maxLen; omega
  have hb1 : (n + m) * bytes ≤ 140737488355328 := by
    have : (n + m) * bytes ≤ 1099511627776 * 64 := Nat.mul_le_mul hn hby2
    omega
  by_cases hroom : n + m ≤ c
  · rcases h3 with ⟨h3, _⟩ | ⟨gb, off, rfl, rfl, hlt, hc, hfl, hfz⟩
    · omega
    · have hcs : (n + m) * sz ≤ c * sz := Nat.mul_le_mul_right _ hroom
      have hcs2 : n * sz + m * sz ≤ c * sz := by rw [Nat.add_mul] at hcs; exact hcs
      have hrun := run_append_room_cells (P := P) w t t e i ht hi gb off n c ad m cc news (by rw [hsize]; omega) hnews h1 hroom
        (fun j hj => by rw [hsize, Nat.add_assoc]; exact hc _ (by omega)) (fun j hj => hfz _)
      rw [hsize] at hrun
      refine ⟨_, _, _, some gb, hrun, ⟨by rw [List.length_append, hf, hl, Nat.add_mul], hroom, .inr ⟨gb, off, rfl, rfl, ?_, fun j hj => ?_, fun j v hv => ?_, fun i => ?_⟩⟩, ?_, fun k hk => .inl hk⟩
      · have := (Turn.setCells (bs := [gb]) (b := gb) (by simp) news (off + n * sz) (Turn.refl [gb] w)).size
        omega
      · by_cases hj2 : off + n * sz ≤ off + j ∧ off + j < off + n * sz + news.length
        · obtain ⟨k, rfl⟩ : ∃ k, j = n * sz + k := ⟨j - n * sz, by omega⟩
          rw [← Nat.add_assoc, World.cell?_setCells_in gb news (off + n * sz) w (fun j hj => by rw [Nat.add_assoc]; exact hc _ (by omega)) k (by omega)]
          rfl
        · rw [World.cell?_setCells_out gb news _ w _ (fun _ _ => by simp only; omega)]
          exact hc j hj
      · by_cases hj2 : j < flat.length
        · rw [List.getElem?_append_left hj2] at hv
          rw [World.cell?_setCells_out gb news _ w _ (fun _ _ => by simp only; omega)]
          exact hfl j v hv
        · rw [List.getElem?_append_right (by omega)] at hv
          have hk := (List.getElem?_eq_some_iff.1 hv).1
          obtain ⟨k, rfl⟩ : ∃ k, j = n * sz + k := ⟨j - n * sz, by omega⟩
          rw [← Nat.add_assoc, World.cell?_setCells_in gb news (off + n * sz) w (fun j hj => by rw [Nat.add_assoc]; exact hc _ (by omega)) k (by omega)]
          have e1 : n * sz + k - flat.length = k := by omega
          rw [e1] at hv
          rw [← hv]
          exact (List.getElem?_eq_getElem (by omega)).symm
      · rw [World.frozen?_setCells]; exact hfz i
      · exact Turn.setCells (by simp) news _ (Turn.refl _ _)
  · have hfull : c < n + m := by omega
    cases a with
    | none =>
      have hc0 : c = 0 := by
        rcases h3 with ⟨h3, _⟩ | ⟨gb, off, rfl, h3, _⟩
        · exact h3
        · cases h3
      have hn0 : n = 0 := by omega
      subst hc0 hn0
      have hfe : flat = [] := List.eq_nil_of_length_eq_zero (by simpa using hf)
      subst hfe
      obtain ⟨v', w', hrun, hown, hgr, _⟩ := run_append_own (P := P) w w.heap.size t t e i z sz bytes ht hi hz hsize hby hzs hsz (.slice none 0 0) 0 [] (World.ownsRow_nil _ _ _ _) ad m cc news (by omega) hnews h1 hm1 hb1 (Nat.le_refl _)
      obtain ⟨gb, c', rfl, hge, hwin⟩ := Win.of_owns hown (by omega)
      exact ⟨_, _, _, _, hrun, by simpa using hwin, (Turn.refl _ _).grown hgr (fun k hk => by simp [Value.ownBlock] at hk), fun k hk => .inr (by cases hk; exact hge)⟩
    | some b =>
      have holds : ∀ j u, flat[j]? = some u → w.cell? (b.add j) = some u := by
        rcases h3 with ⟨h3, _⟩ | ⟨gb, off, rfl, h3, hlt, hc, hfl, hfz⟩
        · intro j u hu
          have := (List.getElem?_eq_some_iff.1 hu).1
          have : n = 0 := by omega
          subst this
          simp at hf
          subst hf
          simp at hu
        · cases h3
          intro j u hu
          rw [Addr.add_lit]
          exact hfl j u hu
      obtain ⟨v', w', hrun, hown, hgr⟩ := run_append_arg_grows (P := P) w t t e i z sz bytes ht hi hz hsize hby hzs hsz b n c flat hf holds ad m cc news (by omega) hnews hfull hm1 hb1
      obtain ⟨gb, c', rfl, hge, hwin⟩ := Win.of_owns hown (by omega)
      exact ⟨_, _, _, _, hrun, hwin, (Turn.refl _ _).grown hgr (fun k hk => by cases hk), fun k hk => .inr (by cases hk; exact hge)⟩
/-- 'append' of none. -/
theorem run_append_zero {P : Program} (w : World) (t e : TypeId) (i : TypeInfo) (ht : P.underlying t = some (.slice e)) (hi : P.info? e = some i) (a a2 : Option Addr) (n c c2 : Nat) (hn : n ≤ c) :
    (Builtin.append_ #[t, t] t #[.slice a n c, .slice a2 0 c2]).run P w = .ok (.slice a n c) w := by
  cases a <;> cases a2 <;> simp [Builtin.append_, run_underlying ht, sizeOf, typeInfo, hi, Builtin.lenOf, hn, Builtin.firstCells, loadCells, loadCellsFrom, storeCells]
end
end Go.Proofs.Ytlihcckgnnnekaa
