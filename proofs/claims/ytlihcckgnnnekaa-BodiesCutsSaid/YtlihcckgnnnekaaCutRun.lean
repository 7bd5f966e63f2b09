/-
  Cuts of bytes, 'b[i:j]', 'b[i:]', 'b[:j]', whatever the room behind them is.
-/
import Derived.Test.YtlihcckgnnnekaaChecked
import Derived.Test.YtlihcckgnnnekaaBase
import Derived.Laws.Slices
import Derived.Deep.MidRow
import Derived.KernelRfl
namespace Go.Proofs.Ytlihcckgnnnekaa
open Go.RowKit
set_option linter.unusedVariables false

/-- Where a cut begins. -/
def cutA (a : Option Addr) (lo c : Nat) : Option Addr := if c = lo then a else a.map (·.add lo)
theorem reads_cut {w : World} {a : Option Addr} {n c : Nat} {zs : List Int} (h : Reads w a n zs) (lo hi : Nat) (h1 : lo ≤ hi) (h2 : hi ≤ n) (hc : n ≤ c) : Reads w (cutA a lo c) (hi - lo) ((zs.drop lo).take (hi - lo)) := by
  have hl := h.1
  unfold cutA
  by_cases e : c = lo
  · have : hi - lo = 0 := by omega
    exact ⟨by simp; omega, .inl this⟩
  · rw [if_neg e]
    by_cases hz : hi - lo = 0
    · exact ⟨by simp; omega, .inl hz⟩
    · obtain ⟨b, off, rfl⟩ := h.some_of (by omega)
      have h2 := h.part lo (hi - lo) (by omega)
      simpa [Addr.add_mid] using h2
theorem cut_size (W : World) : (sizeOf 5).run Try.prog W = .ok 1 W := by
  have h : (Try.prog.info? 5).map (·.size) = some 1 := by kernel_rfl
  cases hq : Try.prog.info? 5 with
  | none => simp [hq] at h
  | some i => simp [hq] at h; simp [sizeOf, typeInfo, hq, h]
theorem cut_elem : Try.prog.elem 24 = 5 := by kernel_rfl
theorem cut_lh (a : Option Addr) (n c lo hi : Nat) (h1 : lo ≤ hi) (h2 : hi ≤ c) (W : World) : (Instr.slice 24 (.slice a n c) (some (.int .i64 (lo : Int))) (some (.int .i64 (hi : Int))) none).run Try.prog W = .ok (.slice (cutA a lo c) (hi - lo) (c - lo)) W := by
  have h := run_slice_lh (P := Try.prog) W 24 a n c (by kernel_rfl) .i64 .i64 (lo : Int) (hi : Int) (by omega) (by omega) (by omega)
  rw [h, cut_elem, cut_size]
  simp [Result.andThen, sliced, cutA]
theorem cut_l (a : Option Addr) (n c lo : Nat) (h1 : lo ≤ n) (W : World) : (Instr.slice 24 (.slice a n c) (some (.int .i64 (lo : Int))) none none).run Try.prog W = .ok (.slice (cutA a lo c) (n - lo) (c - lo)) W := by
  have h := run_slice_l (P := Try.prog) W 24 a n c (by kernel_rfl) .i64 (lo : Int) (by omega) (by omega)
  rw [h, cut_elem, cut_size]
  simp [Result.andThen, sliced, cutA]
theorem cut_h (a : Option Addr) (n c hi : Nat) (h2 : hi ≤ c) (W : World) : (Instr.slice 24 (.slice a n c) none (some (.int .i64 (hi : Int))) none).run Try.prog W = .ok (.slice (cutA a 0 c) hi c) W := by
  have h := run_slice_h (P := Try.prog) W 24 a n c (by kernel_rfl) .i64 (hi : Int) (by omega) (by omega)
  rw [h, cut_elem, cut_size]
  simp [Result.andThen, sliced, cutA]
end Go.Proofs.Ytlihcckgnnnekaa
