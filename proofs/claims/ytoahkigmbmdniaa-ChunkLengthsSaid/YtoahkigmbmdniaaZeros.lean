/-
  'append(b, make([]byte, n)...)': the builtin is handed the number n. Onto a row of the call's own without room.
-/
import Derived.Test.YtoahkigmbmdniaaRef00b
import Derived.Lib.AppendZeros
namespace Go.Proofs.Ytoahkigmbmdniaa
open Go.RowKit
set_option linter.unusedVariables false

theorem append_zeros_none {P : Program} (w : World) (t tn ty e : TypeId) (i : TypeInfo) (kn : IntKind) (ht : P.underlying t = some (.slice e)) (htn : P.underlying tn = some (.int kn)) (hi : P.info? e = some i) (b : Addr) (l c : Nat) (hlc : l ≤ c) :
    (Builtin.append_ #[t, tn] ty #[.slice (some b) l c, .int .i64 0]).run P w = .ok (.slice (some b) l c) w := by
  have hw : IntKind.i64.wrap 0 = 0 := by rw [IntKind.wrap_i64]; omega
  simp [Builtin.append_, run_underlying ht, run_underlying htn, sizeOf, typeInfo, hi, asInt, asIntOf, hw, hlc, storeCells]
theorem append_zeros_grow {P : Program} (w : World) (t tn ty e : TypeId) (i : TypeInfo) (z : Value) (kn : IntKind) (ht : P.underlying t = some (.slice e)) (htn : P.underlying tn = some (.int kn)) (hi : P.info? e = some i) (hz : i.zero = some z) (hs : i.size = 1) (hby : i.bytes = 1)
    (b : Addr) (l c n : Nat) (olds : List Value) (hlo : olds.length = l) (holds : ∀ j v, olds[j]? = some v → w.cell? (b.add j) = some v) (h0 : 0 < n) (hg : c < l + n) (hsm : l + n ≤ 1099511627776) :
    (Builtin.append_ #[t, tn] ty #[.slice (some b) l c, .int .i64 n]).run P w =
      .ok (.slice (some ⟨w.heap.size, 0, none⟩) (l + n) (grownCap w (l + n) c e)) (w.drew.alloc (.cells (olds.toArray ++ Builtin.zeroCells z.cells n ++ Builtin.zeroCells z.cells (grownCap w (l + n) c e - (l + n))) e)) := by
  have hn : ¬ (l + n ≤ c) := by omega
  have hn0 : n ≠ 0 := by omega
  have hw : IntKind.i64.wrap (n : Int) = n := by rw [IntKind.wrap_i64]; omega
  have h63' : ¬ (9223372036854775807 < ((l : Int) + (n : Int))) := by omega
  have hneg : ¬ ((n : Int) < 0) := by omega
  have h48' : ¬ (281474976710656 < Builtin.nextslicecap (l + n) c) := by
    have := growslice_fits (bytes := 1) hg (by omega)
    omega
  have h48i : ¬ (281474976710656 < (n : Int)) := by omega
  have hfo := run_firstCells_some (P := P) w.drew 1 l b l c olds (by omega) (by simpa using holds)
  simp [Builtin.append_, run_underlying ht, run_underlying htn, sizeOf, typeInfo, zeroValue, hi, hz, hs, hby, asInt, asIntOf, hw, hneg, hn, hn0, h63', h48', h48i, Question.forced, hfo, newRow, grownCap]

theorem zeroCells_u8 (n : Nat) : Builtin.zeroCells (Value.int .u8 0).cells n = (List.replicate n (Value.int .u8 0)).toArray := by
  apply Array.ext
  · simp [Builtin.zeroCells, Value.cells]
  · intro i h1 h2
    simp [Builtin.zeroCells, Value.cells, Nat.mod_one]

theorem appendZeros (w : World) (g l n : Nat) (zs : List Int) (hk : Blk w g zs) (hl : zs.length = l) (hn : l + n ≤ 1099511627776) :
    ∃ a' c' W, (Builtin.append_ #[22, 3] 22 #[.slice (some ⟨g, 0, none⟩) l l, .int .i64 n]).run Try.prog w = .ok (.slice a' (l + n) c') W ∧
      RowKit.Hid (Reads W a' (l + n) (zs ++ List.replicate n 0) ∧ l + n ≤ c' ∧ Below w.heap.size w W) := by
  obtain ⟨i0, hi0, hz⟩ := Option.map_eq_some_iff.1 Try.infoR
  simp only [Prod.mk.injEq] at hz
  obtain ⟨hz0, hz1, hz2⟩ := hz
  by_cases h0 : n = 0
  · subst h0
    exact ⟨_, _, w, append_zeros_none w _ _ _ 5 i0 .i64 Try.underlying22 Try.underlying3 hi0 ⟨g, 0, none⟩ l l (Nat.le_refl _), Lib.hid ⟨by simpa using hk.readsAll l hl.symm, Nat.le_refl _, Below.refl _ _⟩⟩
  · have hrun := append_zeros_grow w 22 3 22 5 i0 (.int .u8 0) .i64 Try.underlying22 Try.underlying3 hi0 hz0 hz1 hz2 ⟨g, 0, none⟩ l l n (zs.map (Value.int .u8)) (by simpa using hl)
      ((hk.readsAll l hl.symm).copied) (by omega) (by omega) hn
    rw [zeroCells_u8, zeroCells_u8] at hrun
    have hge := grownCap_ge w (l + n) l 5
    refine ⟨_, _, _, hrun, Lib.hid ⟨?_, hge, ?_⟩⟩
    · have hb : Blk (w.drew.alloc (.cells ((zs.map (Value.int .u8)).toArray ++ (List.replicate n (Value.int .u8 0)).toArray ++ (List.replicate (grownCap w (l + n) l 5 - (l + n)) (Value.int .u8 0)).toArray) 5)) w.heap.size (zs ++ List.replicate n 0 ++ List.replicate (grownCap w (l + n) l 5 - (l + n)) 0) := by
        unfold Blk
        rw [show w.heap.size = w.drew.heap.size from rfl, heap_alloc_new]
        simp
      have := hb.reads 0 (l + n) (by simp; omega)
      rw [List.drop_zero, List.take_append_of_le_length (by simp; omega), List.take_of_length_le (by simp; omega)] at this
      exact this
    · exact ((Below.refl _ _).drew).alloc (Nat.le_refl _) _
end Go.Proofs.Ytoahkigmbmdniaa
