/-
  'append' of bytes that came in, or of none, onto a row of the call's own.
-/
import Derived.Test.YtlihcckgnnnekaaRef00b
import Derived.Test.YtlihcckgnnnekaaWins
namespace Go.Proofs.Ytlihcckgnnnekaa
open Go.RowKit
set_option linter.unusedVariables false

/-- 'append' of bytes that came in, or of none. -/
theorem Row8.appends {base : Nat} {w : World} {a : Option Addr} {n c : Nat} {zs : List Int} (h : Row8 base w a n c zs) (hb : base ≤ w.heap.size) (b : Option Addr) (m c2 : Nat) (ys : List Int) (hr : Reads w b m ys) (hn : n + m ≤ 2199023255552) :
    ∃ a' c' W3, (Builtin.append_ #[24, 24] 24 #[.slice a n c, .slice b m c2]).run Try.prog w = .ok (.slice a' (n + m) c') W3 ∧
      RowKit.Hid (Row8 base W3 a' (n + m) c' (zs ++ ys) ∧ Below base w W3) := by
  obtain ⟨i0, hi0, hz⟩ := Option.map_eq_some_iff.1 Try.infoR
  simp only [Prod.mk.injEq] at hz
  obtain ⟨hz0, hz1, hz2⟩ := hz
  have hlen : ys.length = m := hr.1
  by_cases hm : m = 0
  · subst hm
    have hy : ys = [] := List.eq_nil_of_length_eq_zero hlen
    subst hy
    exact ⟨a, c, w, run_append_zero w _ _ i0 Try.underlying24 hi0 a b n c c2 h.le, Lib.hid ⟨by simpa using h, Below.refl _ _⟩⟩
  · rcases hr.2 with h0 | ⟨bk, off, rfl, hlt, hc⟩
    · omega
    · obtain ⟨a', c', W3, hrun, hrow, hg⟩ := h.grow hb ⟨bk, off, none⟩ m c2 ys hlen (fun j u hu => by
          rw [List.getElem?_map] at hu
          obtain ⟨y, hy, rfl⟩ := Option.map_eq_some_iff.1 hu
          have hj : j < m := by have := (List.getElem?_eq_some_iff.1 hy).1; omega
          rw [show (⟨bk, off, none⟩ : Addr).add j = ⟨bk, off + j, none⟩ from Addr.add_mid _ _ _, hc j hj, hy, Option.getD_some]) (by omega) (by omega)
      exact ⟨a', c', W3, hrun, Lib.hid ⟨hrow, hg.os, hg.tape, hg.output, hg.size, fun k hk => hg.block k (by omega) (fun e => by have := (h.lt k e.symm).1; omega)⟩⟩
/-- 'append' of bytes onto a full row. -/
theorem blk_appends {w : World} {g l : Nat} {zs : List Int} (h : Blk w g zs) (hl : zs.length = l) (b : Option Addr) (m c2 : Nat) (ys : List Int) (hr : Reads w b m ys) (hn : l + m ≤ 1099511627776) :
    ∃ a' c' W3, (Builtin.append_ #[24, 24] 24 #[.slice (some ⟨g, 0, none⟩) l l, .slice b m c2]).run Try.prog w = .ok (.slice a' (l + m) c') W3 ∧
      RowKit.Hid (Reads W3 a' (l + m) (zs ++ ys) ∧ l + m ≤ c' ∧ Turn [g] w W3) := by
  obtain ⟨i0, hi0, hz⟩ := Option.map_eq_some_iff.1 Try.infoR
  simp only [Prod.mk.injEq] at hz
  obtain ⟨hz0, hz1, hz2⟩ := hz
  have hrow0 : Row8 0 w (some ⟨g, 0, none⟩) l l zs := Row8.of_blk h (Nat.zero_le _) hl.symm (by unfold maxLen; omega)
  have hlen : ys.length = m := hr.1
  by_cases hm : m = 0
  · subst hm
    have hy : ys = [] := List.eq_nil_of_length_eq_zero hlen
    subst hy
    exact ⟨_, l, w, run_append_zero w _ _ i0 Try.underlying24 hi0 _ b l l c2 (Nat.le_refl _), Lib.hid ⟨by simpa using hrow0.reads, Nat.le_refl _, Turn.refl _ _⟩⟩
  · rcases hr.2 with h0 | ⟨bk, off, rfl, hlt, hc⟩
    · omega
    · obtain ⟨a', c', W3, hrun, hrow, hg⟩ := hrow0.grow (Nat.zero_le _) ⟨bk, off, none⟩ m c2 ys hlen (fun j u hu => by
          rw [List.getElem?_map] at hu
          obtain ⟨y, hy, rfl⟩ := Option.map_eq_some_iff.1 hu
          have hj : j < m := by have := (List.getElem?_eq_some_iff.1 hy).1; omega
          rw [show (⟨bk, off, none⟩ : Addr).add j = ⟨bk, off + j, none⟩ from Addr.add_mid _ _ _, hc j hj, hy, Option.getD_some]) (by omega) (by omega)
      refine ⟨a', c', W3, hrun, Lib.hid ⟨hrow.reads, hrow.le, (Turn.refl _ _).grown hg (fun k hk => ?_)⟩⟩
      simp [Value.ownBlock] at hk
      subst hk
      exact .inl (by simp)
end Go.Proofs.Ytlihcckgnnnekaa
