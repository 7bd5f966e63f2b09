/-
  A chunk in a box of its own (a struct of three cells); a row of bytes lies elsewhere.
-/
import Derived.Test.YtlihcckgnnnekaaArr
namespace Go.Proofs.Ytlihcckgnnnekaa
open Go.RowKit
set_option linter.unusedVariables false

theorem chunkBox (W : World) (k f : Int) (v : Value) : Arr (W.alloc (.cells #[.int .u8 k, .int .u8 f, v] 28)) W.heap.size 28 [.int .u8 k, .int .u8 f, v] := arr_new _ _ _
theorem chunkBelow (W : World) (k f : Int) (v : Value) : Below W.heap.size W (W.alloc (.cells #[.int .u8 k, .int .u8 f, v] 28)) := (Below.refl _ _).alloc (Nat.le_refl _) _

theorem box3 {w : World} {g : Nat} {T : TypeId} {a0 a1 a2 : Value} (h : Arr w g T [a0, a1, a2]) (b0 b1 b2 : Value) :
    Arr (((w.setCell ⟨g, 0, none⟩ b0).setCell ⟨g, 1, none⟩ b1).setCell ⟨g, 2, none⟩ b2) g T [b0, b1, b2] := ((h.set 0 b0).set 1 b1).set 2 b2
theorem below3 {B : Nat} {a w : World} (h : Below B a w) {g : Nat} (hg : B ≤ g) (b0 b1 b2 : Value) :
    Below B a (((w.setCell ⟨g, 0, none⟩ b0).setCell ⟨g, 1, none⟩ b1).setCell ⟨g, 2, none⟩ b2) := ((h.setCell hg _).setCell hg _).setCell hg _

theorem Blk.ne_arr {w : World} {g' : Nat} {zs : List Int} (h : Blk w g' zs) {g : Nat} {cs : List Value} (hA : Arr w g 28 cs) : g' ≠ g := by
  intro e
  subst e
  unfold Blk at h
  unfold Arr at hA
  rw [hA] at h
  simp at h

theorem Row8.ne_arr {base : Nat} {w : World} {a : Option Addr} {n c : Nat} {zs : List Int} (h : Row8 base w a n c zs) {g : Nat} {cs : List Value} (hA : Arr w g 28 cs) (p : Addr) (hp : a = some p) : p.block ≠ g := by
  obtain ⟨_, _, cs', hk⟩ := h.far p hp
  intro e
  subst e
  unfold Arr at hA
  rw [hA] at hk
  simp at hk
theorem Reads.off {w : World} {a : Option Addr} {n : Nat} {zs : List Int} (h : Reads w a n zs) {q : Addr} (u : Value) (hne : ∀ p, a = some p → p.block ≠ q.block) : Reads (w.setCell q u) a n zs := by
  refine ⟨h.1, ?_⟩
  rcases h.2 with h2 | ⟨b, off, ha, hlt, hc⟩
  · exact .inl h2
  · refine .inr ⟨b, off, ha, by simpa [World.setCell] using hlt, fun i hi => ?_⟩
    have h1 : (w.setCell q u).heap[b]? = w.heap[b]? := Below.heap_setCell _ _ _ _ (hne _ ha)
    exact (World.cell?_of_block (w := w) (a := ⟨b, off + i, none⟩) h1).trans (hc i hi)
end Go.Proofs.Ytlihcckgnnnekaa
