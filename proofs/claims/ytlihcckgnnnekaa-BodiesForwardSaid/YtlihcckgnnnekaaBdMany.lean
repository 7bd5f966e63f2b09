/-
  Stage 9: 'append' of pairs that came in onto nothing; the answers of GetForward in one form.
-/
import Derived.Test.YtlihcckgnnnekaaBdCom
import Derived.Test.YtlihcckgnnnekaaBdRows
namespace Go.Proofs.Ytlihcckgnnnekaa
open Go.RowKit
set_option linter.unusedVariables false

theorem pairC_cells {w : World} {a : Option Addr} {n : Nat} {ps : List (Int × Int)} (h : Prs w a n ps) {b off : Nat} (ha : a = some ⟨b, off, none⟩) (j : Nat) (u : Value) (hu : (pairC ps)[j]? = some u) : w.cell? ((⟨b, off, none⟩ : Addr).add j) = some u := by
  have hj : j < (pairC ps).length := (List.getElem?_eq_some_iff.1 hu).1
  rw [pairC_len] at hj
  obtain ⟨p, hp⟩ : ∃ p, ps[j / 2]? = some p := ⟨ps[j / 2]'(by omega), by simp [show j / 2 < ps.length by omega]⟩
  obtain ⟨g, o, hq, _, h0, h1⟩ := h.2.2 (j / 2) p hp
  rw [ha] at hq
  cases hq
  have h2 := pairC_at hp
  rw [show (⟨b, off, none⟩ : Addr).add j = ⟨b, off + j, none⟩ from Addr.add_mid _ _ _]
  rcases Nat.mod_two_eq_zero_or_one j with hm | hm
  · have e : j = j / 2 * 2 := by omega
    rw [e] at hu ⊢
    rw [h2.1] at hu
    rw [h0, Option.some.inj hu]
  · have e : j = j / 2 * 2 + 1 := by omega
    rw [e] at hu ⊢
    rw [h2.2] at hu
    rw [← Nat.add_assoc, h1, Option.some.inj hu]
/-- 'append' of pairs onto nothing. -/
theorem appendPairs {T ST : TypeId} (hinfo : (Try.prog.info? T).map (fun i => (i.zero, i.size, i.bytes)) = some (some (.agg #[.int .u16 0, .int .u16 0]), 2, 4)) (hST : Try.prog.underlying ST = some (.slice T)) {w : World} {base : Nat} (hb : base ≤ w.heap.size) (q : Option Addr) (n c : Nat) (ps : List (Int × Int)) (h : Prs w q n ps) (hn : n ≤ 1048576) :
    ∃ a' c' W3, (Builtin.append_ #[ST, ST] ST #[.slice none 0 0, .slice q n c]).run Try.prog w = .ok (.slice a' n c') W3 ∧ RowKit.Hid (RowP T base W3 a' n c' ps ∧ w.grownBy W3 none) := by
  obtain ⟨i0, hi0, hz⟩ := Option.map_eq_some_iff.1 hinfo
  simp only [Prod.mk.injEq] at hz
  obtain ⟨hz0, hz1, hz2⟩ := hz
  by_cases h0 : n = 0
  · subst h0
    have hp : ps = [] := List.eq_nil_of_length_eq_zero h.1
    subst hp
    exact ⟨none, 0, w, run_append_zero w _ _ i0 hST hi0 none q 0 0 c (Nat.le_refl _), Lib.hid ⟨World.ownsRow_nil _ _ _ _, grown_refl _ _⟩⟩
  · obtain ⟨p, hp⟩ : ∃ p, ps[0]? = some p := ⟨ps[0]'(by rw [h.1]; omega), by simp [show 0 < ps.length by rw [h.1]; omega]⟩
    obtain ⟨b, off, hq, _⟩ := h.2.2 0 p hp
    subst hq
    obtain ⟨v', W3, hrun, ho, hg, _⟩ := run_append_own (P := Try.prog) w base ST ST T i0 (.agg #[.int .u16 0, .int .u16 0]) 2 4 hST hi0 hz0 hz1 hz2 rfl (by decide) (.slice none 0 0) 0 [] (World.ownsRow_nil _ _ _ _) ⟨b, off, none⟩ n c (pairC ps) (by rw [pairC_len, h.1])
      (fun j u hu => pairC_cells h rfl j u hu) (by intro u hu; unfold pairC at hu; simp only [List.mem_flatten, List.mem_map] at hu; obtain ⟨l, ⟨p, _, rfl⟩, hu⟩ := hu; simp at hu; rcases hu with rfl | rfl <;> rfl) (by unfold maxLen; omega) (by omega) hb
    rw [Nat.zero_add, List.nil_append] at ho
    obtain ⟨a', c', rfl⟩ := slice_of_owns ho
    exact ⟨a', c', W3, hrun, Lib.hid ⟨ho, hg⟩⟩
theorem grown_none_arr {w w' : World} (hg : w.grownBy w' none) {g : Nat} {T : TypeId} {cs : List Value} (h : Arr w g T cs) : Arr w' g T cs := (hg.block g h.lt (by simp)).trans h
theorem grown_none_below {w w' : World} (hg : w.grownBy w' none) : Below w.heap.size w w' := ⟨hg.os, hg.tape, hg.output, hg.size, fun k hk => hg.block k hk (by simp)⟩

/-- GetForward's answer, whatever it is. -/
theorem GotF.any {w : World} {b : Bool} {x0 : Int} {ps : List (Int × Int)} {e : Ending} {w' : World} (h : GotF w b x0 ps e w') :
    ∃ a1 c1, e = .returned (.tuple #[.agg #[.int .u32 (if b = true then x0 else 0), .slice a1 (if b = true then ps else []).length c1], .int .i64 (if b = true then 0 else 7)]) ∧ Below w.heap.size w w' ∧ Prs w' a1 (if b = true then ps else []).length (if b = true then ps else []) := by
  obtain ⟨a1, c1, h1, h2, h3⟩ := h
  rcases h1 with ⟨hb, h1⟩ | ⟨hb, h1⟩
  · subst hb; exact ⟨a1, c1, h1, h2, h3⟩
  · subst hb; exact ⟨none, 0, h1, h2, Prs.nil _ _⟩
theorem AnsF.any {w : World} {b : Bool} {x0 : Int} {ps : List (Int × Int)} {e : Ending} {w' : World} (h : AnsF w b x0 ps e w') :
    ∃ a1 c1, e = .returned (.tuple #[.agg #[.int .u32 (if b = true then x0 else 0), .slice a1 (if b = true then ps else []).length c1], .int .i64 (if b = true then 0 else 7)]) ∧ Below w.heap.size w w' ∧ Prs w' a1 (if b = true then ps else []).length (if b = true then ps else []) := by
  cases b with
  | true => exact (h.1 rfl).any
  | false => exact ⟨none, 0, (h.2 rfl).1, (h.2 rfl).2, Prs.nil _ _⟩
end Go.Proofs.Ytlihcckgnnnekaa
