/-
  Stage 10: how long a packet is that a law lets through.
-/
import Derived.Test.YtnndlpbbllmpjaaPkApi
import Derived.Test.YtnndlpbbllmpjaaPkLarge
namespace Go.Proofs.Ytnndlpbbllmpjaa
open Go.RowKit
set_option linter.unusedVariables false

theorem sizeP_sum {w : World} {L : List Ck} (h : ∀ r ∈ L, CkOk w r) : sizeP (pcs L) ≤ 12 + 7 * L.length + sumN L := by
  induction L with
  | nil => simp [pcs, sizeP, sumN]
  | cons r L ih =>
    have h1 := ih (fun q hq => h q (by simp [hq]))
    have h2 := (h r (by simp)).reads.1
    have h3 := up4_le r.zs.length
    have e : sizeP (pcs (r :: L)) = sizeP (pcs L) + (4 + up4 r.zs.length) := by simp [pcs, sizeP, sizeC, Ck.pc]; omega
    have e2 : sumN (r :: L) = r.n + sumN L := by simp [sumN]
    rw [e, e2, List.length_cons]
    omega
theorem sizeP_more {w : World} {L : List Ck} {r : Ck} (h : ∀ r ∈ L, CkOk w r) (hr : CkOk w r) : sizeP (pcs L ++ [r.pc]) ≤ 19 + 7 * L.length + sumN L + r.n := by
  have h1 := sizeP_sum h
  have h2 := hr.reads.1
  have h3 := up4_le r.zs.length
  rw [sizeP_app, sizeP_one]
  have e : sizeC r.pc = 4 + up4 r.zs.length := rfl
  rw [e]
  omega
/-- Chunks that are laid take no more than a packet's size says. -/
theorem bodyP_sum {w : World} {L : List Ck} (h : ∀ r ∈ L, CkOk w r) : (bodyP (pcs L)).length ≤ 7 * L.length + sumN L := by
  induction L with
  | nil => simp [pcs, bodyP, sumN]
  | cons r L ih =>
    have h1 := ih (fun q hq => h q (by simp [hq]))
    have h2 := (h r (by simp)).reads.1
    have h3 := up4_le (4 + r.zs.length)
    have e : bodyP (pcs (r :: L)) = encOf r.k r.f r.zs ++ bodyP (pcs L) := by simp [pcs, bodyP, Ck.pc]
    have e2 : sumN (r :: L) = r.n + sumN L := by simp [sumN]
    have h4 : (encOf r.k r.f r.zs).length ≤ 7 + r.zs.length := by
      by_cases hz : r.zs.length ≤ 65531
      · rw [encOf_yes hz, encC_len]; omega
      · unfold encOf; rw [if_neg hz]; simp
    rw [e, e2, List.length_cons, List.length_append]
    omega
end Go.Proofs.Ytnndlpbbllmpjaa
