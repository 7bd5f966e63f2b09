/-
  Two rows of bytes of one's own, apart from each other: bytes appended to one of them.
-/
import Derived.Test.YtlgcplopibblbaaDoorWins
import Derived.Test.YtlgcplopibblbaaDoorRef00b
namespace Go.Proofs.YtlgcplopibblbaaDoor
open Go.RowKit
set_option linter.unusedVariables false

theorem Win.readsB {w : World} {g : Option Nat} {a : Option Addr} {n c : Nat} {zs : List Int} (h : Win w 1 g a n c (zs.map (Value.int .u8))) : Reads w a n zs := by
  have hl : zs.length = n := by have := h.1; simpa using this
  refine ⟨hl, ?_⟩
  by_cases h0 : n = 0
  · exact .inl h0
  · obtain ⟨gb, off, _, ha, hlt, _, hc, _⟩ := h.some_of (by omega)
    exact .inr ⟨gb, off, ha, hlt, fun i hi => hc i _ (by rw [List.getElem?_map]; simp [show i < zs.length by omega])⟩
/-- 'append' of bytes. -/
theorem Win.addB {w : World} {g : Option Nat} {a : Option Addr} {n c : Nat} {xs : List Int} (h : Win w 1 g a n c (xs.map (Value.int .u8))) (b : Option Addr) (m c2 : Nat) (ys : List Int) (hr : Reads w b m ys) (hn : n + m ≤ 1099511627776) :
    ∃ a' c' w' g', (Builtin.append_ #[22, 22] 22 #[.slice a n c, .slice b m c2]).run Tryd.prog w = .ok (.slice a' (n + m) c') w' ∧
      Win w' 1 g' a' (n + m) c' ((xs ++ ys).map (Value.int .u8)) ∧ Turn g.toList w w' ∧ ∀ k, g' = some k → g = some k ∨ w.heap.size ≤ k := by
  obtain ⟨i0, hi0, hz⟩ := Option.map_eq_some_iff.1 Tryd.infoR
  simp only [Prod.mk.injEq] at hz
  obtain ⟨hz0, hz1, hz2⟩ := hz
  have hlen : ys.length = m := hr.1
  by_cases hm : m = 0
  · subst hm
    have hy : ys = [] := List.eq_nil_of_length_eq_zero hlen
    subst hy
    exact ⟨a, c, w, g, run_append_zero w _ _ i0 Tryd.underlying22 hi0 a b n c c2 h.2.1, by simpa using h, Turn.refl _ _, fun k hk => .inl hk⟩
  · rcases hr.2 with h0 | ⟨bk, off, rfl, _, hc⟩
    · omega
    · have := h.appends (P := Tryd.prog) 22 5 i0 (.int .u8 0) 1 Tryd.underlying22 hi0 hz0 hz1 hz2 (by omega) rfl (by omega) ⟨bk, off, none⟩ c2 m (by omega) (ys.map (Value.int .u8)) (by simp [hlen])
        (fun j u hu => by
          rw [List.getElem?_map] at hu
          obtain ⟨y, hy, rfl⟩ := Option.map_eq_some_iff.1 hu
          have hj : j < m := by have := (List.getElem?_eq_some_iff.1 hy).1; omega
          rw [show (⟨bk, off, none⟩ : Addr).add j = ⟨bk, off + j, none⟩ from Addr.add_mid _ _ _, hc j hj, hy, Option.getD_some])
        (by intro u hu; obtain ⟨y, _, rfl⟩ := List.mem_map.1 hu; rfl) hn
      rw [← List.map_append] at this
      exact this

/-- Two rows, apart, both made since w0. -/
def Two (w0 : World) (a1 : Option Addr) (n1 c1 : Nat) (xs : List Int) (a2 : Option Addr) (n2 c2 : Nat) (ys : List Int) (W : World) : Prop :=
  ∃ g1 g2, Win W 1 g1 a1 n1 c1 (xs.map (Value.int .u8)) ∧ Win W 1 g2 a2 n2 c2 (ys.map (Value.int .u8)) ∧ (∀ k, g1 = some k → w0.heap.size ≤ k) ∧ (∀ k, g2 = some k → w0.heap.size ≤ k) ∧ (∀ k, g1 = some k → g2 ≠ some k) ∧ Below w0.heap.size w0 W
section
variable {w0 W W' : World} {a1 a2 : Option Addr} {n1 c1 n2 c2 : Nat} {xs ys : List Int}
theorem Two.nil (w0 W : World) (hb : Below w0.heap.size w0 W) : Two w0 none 0 0 [] none 0 0 [] W := ⟨none, none, Win.nil _ _ _, Win.nil _ _ _, fun k h => (by cases h), fun k h => (by cases h), fun k h => (by cases h), hb⟩
theorem Two.symm (h : Two w0 a1 n1 c1 xs a2 n2 c2 ys W) : Two w0 a2 n2 c2 ys a1 n1 c1 xs W := by
  obtain ⟨g1, g2, h1, h2, h3, h4, h5, h6⟩ := h
  exact ⟨g2, g1, h2, h1, h4, h3, fun k hk h => h5 k h hk, h6⟩
theorem Two.below (h : Two w0 a1 n1 c1 xs a2 n2 c2 ys W) : Below w0.heap.size w0 W := by obtain ⟨_, _, _, _, _, _, _, h⟩ := h; exact h
theorem Two.keep (h : Two w0 a1 n1 c1 xs a2 n2 c2 ys W) (hb : Below W.heap.size W W') : Two w0 a1 n1 c1 xs a2 n2 c2 ys W' := by
  obtain ⟨g1, g2, h1, h2, h3, h4, h5, h6⟩ := h
  exact ⟨g1, g2, h1.turn (Turn.of_below hb) (fun k _ h => by cases h), h2.turn (Turn.of_below hb) (fun k _ h => by cases h), h3, h4, h5, h6.trans (hb.mono h6.size)⟩
theorem Two.reads (h : Two w0 a1 n1 c1 xs a2 n2 c2 ys W) : Reads W a1 n1 xs := by obtain ⟨g1, g2, h1, _⟩ := h; exact h1.readsB
theorem Two.le (h : Two w0 a1 n1 c1 xs a2 n2 c2 ys W) : n1 ≤ c1 := by obtain ⟨g1, g2, h1, _⟩ := h; exact h1.2.1
theorem Two.add (h : Two w0 a1 n1 c1 xs a2 n2 c2 ys W) (b : Option Addr) (m c : Nat) (zs : List Int) (hr : Reads W b m zs) (hn : n1 + m ≤ 1099511627776) :
    ∃ a' c' W', (Builtin.append_ #[22, 22] 22 #[.slice a1 n1 c1, .slice b m c]).run Tryd.prog W = .ok (.slice a' (n1 + m) c') W' ∧ Hid (Two w0 a' (n1 + m) c' (xs ++ zs) a2 n2 c2 ys W') := by
  obtain ⟨g1, g2, h1, h2, h3, h4, h5, h6⟩ := h
  obtain ⟨a', c', W', g', hrun, hw, ht, hg⟩ := h1.addB b m c zs hr hn
  refine ⟨a', c', W', hrun, Lib.hid ⟨g', g2, hw, h2.turn ht (fun k hk h => ?_), fun k hk => ?_, h4, fun k hk h => ?_, h6.trans (ht.below h6.size (fun k hk => ?_))⟩⟩
  · cases g1 with
    | none => simp at h
    | some q => simp at h; subst h; exact h5 k rfl hk
  · rcases hg k hk with h | h
    · exact h3 k h
    · have := h6.size; omega
  · rcases hg k hk with h7 | h7
    · exact h5 k h7 h
    · have := h2.lt k h; omega
  · cases g1 with
    | none => simp at hk
    | some q => simp at hk; subst hk; exact h3 k rfl
/-- A byte. -/
theorem Two.add1 (h : Two w0 a1 n1 c1 xs a2 n2 c2 ys W) (x : Int) (hn : n1 ≤ 1099511627775) :
    ∃ a' c' W', (Builtin.append_ #[22, 22] 22 #[.slice a1 n1 c1, .slice (some ⟨W.heap.size, 0, none⟩) 1 1]).run Tryd.prog (W.alloc (.cells #[.int .u8 x] 5)) = .ok (.slice a' (n1 + 1) c') W' ∧ Hid (Two w0 a' (n1 + 1) c' (xs ++ [x]) a2 n2 c2 ys W') := by
  have hb : Below W.heap.size W (W.alloc (.cells #[.int .u8 x] 5)) := (Below.refl _ _).alloc (Nat.le_refl _) _
  have hk : Blk (W.alloc (.cells #[.int .u8 x] 5)) W.heap.size [x] := heap_alloc_new _ _
  exact (h.keep hb).add (some ⟨W.heap.size, 0, none⟩) 1 1 [x] (hk.readsAll 1 rfl) (by omega)
end
end Go.Proofs.YtlgcplopibblbaaDoor
