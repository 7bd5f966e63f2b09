/-
  Stage 11: what came in as a Cookie, cell by cell. Written by genkopen.py.
-/
import Derived.Test.YtcmaclaiholpfaaDoorKMath
import Derived.Test.YtcmaclaiholpfaaDoorMgA
import Derived.ProofKit
import Derived.OpenShut
import Derived.ChangeOld
import Derived.Deep.OwnRows
import Derived.Lib.SmallJoins
namespace Go.Proofs.YtcmaclaiholpfaaDoor
open Go.ChangeShapes Go.WideShapes Go.Deep Go.RowKit
set_option linter.unusedVariables false
theorem klist8 {α : Type} : ∀ {l : List α}, l.length = 8 → ∃ c0 c1 c2 c3 c4 c5 c6 c7, l = [c0, c1, c2, c3, c4, c5, c6, c7]
  | [c0, c1, c2, c3, c4, c5, c6, c7], _ => ⟨c0, c1, c2, c3, c4, c5, c6, c7, rfl⟩
section
variable {H : Type} {enc : TypeId × Value → H} {w : World} {base : Nat} {held : Bool}
theorem kopen_field {P : Program} {t : TypeId} {fs : Array Field} {fuel : Nat} {cs : List Value} {x : DataW H × List MemPlace} (ht : P.underlying t = some (.struct fs)) (h : DataW.trod enc P w base (fun _ => true) held fuel t cs = some x) :
    cs.length = P.cellsOf t ∧ ∀ (j : Nat) (f : Field), fs[j]? = some f → ∃ n y, DataW.trod enc P w base (fun _ => true) held n f.type ((cs.drop f.offset).take (P.cellsOf f.type)) = some y := by
  obtain ⟨xs, n, _, _, hl, hlen, hf⟩ := DataW.trod_struct ht h
  refine ⟨hl, fun j f hj => ⟨n, ?_⟩⟩
  have h2 := hf j f hj
  have hjl : j < xs.length := by have := (Array.getElem?_eq_some_iff.1 hj).1; omega
  rw [List.getElem?_eq_getElem hjl] at h2
  exact ⟨_, h2⟩
theorem open_Cookie {fuel : Nat} {cs : List Value} {x : DataW H × List MemPlace} (h : DataW.trod enc Tryd.prog w base (fun _ => true) held fuel 26 cs = some x) :
    ∃ k : KV, cs = k.cells ∧ k.ok := by
  obtain ⟨hl, hf⟩ := kopen_field Tryd.underlying26 h
  rw [show Tryd.prog.cellsOf 26 = 8 by kernel_rfl] at hl
  obtain ⟨c0, c1, c2, c3, c4, c5, c6, c7, rfl⟩ := klist8 hl
  obtain ⟨m0, y0, h0⟩ := hf 0 _ rfl
  have g0 : DataW.trod enc Tryd.prog w base (fun _ => true) held m0 2 [c0] = some y0 := by
    have e : Tryd.prog.cellsOf 2 = 1 := by kernel_rfl
    have h' : DataW.trod enc Tryd.prog w base (fun _ => true) held m0 2 (([c0, c1, c2, c3, c4, c5, c6, c7].drop 0).take (Tryd.prog.cellsOf 2)) = some y0 := h0
    rw [e] at h'
    exact h'
  obtain ⟨m1, y1, h1⟩ := hf 1 _ rfl
  have g1 : DataW.trod enc Tryd.prog w base (fun _ => true) held m1 23 [c1] = some y1 := by
    have e : Tryd.prog.cellsOf 23 = 1 := by kernel_rfl
    have h' : DataW.trod enc Tryd.prog w base (fun _ => true) held m1 23 (([c0, c1, c2, c3, c4, c5, c6, c7].drop 1).take (Tryd.prog.cellsOf 23)) = some y1 := h1
    rw [e] at h'
    exact h'
  obtain ⟨m2, y2, h2⟩ := hf 2 _ rfl
  have g2 : DataW.trod enc Tryd.prog w base (fun _ => true) held m2 23 [c2] = some y2 := by
    have e : Tryd.prog.cellsOf 23 = 1 := by kernel_rfl
    have h' : DataW.trod enc Tryd.prog w base (fun _ => true) held m2 23 (([c0, c1, c2, c3, c4, c5, c6, c7].drop 2).take (Tryd.prog.cellsOf 23)) = some y2 := h2
    rw [e] at h'
    exact h'
  obtain ⟨m3, y3, h3⟩ := hf 3 _ rfl
  have g3 : DataW.trod enc Tryd.prog w base (fun _ => true) held m3 23 [c3] = some y3 := by
    have e : Tryd.prog.cellsOf 23 = 1 := by kernel_rfl
    have h' : DataW.trod enc Tryd.prog w base (fun _ => true) held m3 23 (([c0, c1, c2, c3, c4, c5, c6, c7].drop 3).take (Tryd.prog.cellsOf 23)) = some y3 := h3
    rw [e] at h'
    exact h'
  obtain ⟨m4, y4, h4⟩ := hf 4 _ rfl
  have g4 : DataW.trod enc Tryd.prog w base (fun _ => true) held m4 23 [c4] = some y4 := by
    have e : Tryd.prog.cellsOf 23 = 1 := by kernel_rfl
    have h' : DataW.trod enc Tryd.prog w base (fun _ => true) held m4 23 (([c0, c1, c2, c3, c4, c5, c6, c7].drop 4).take (Tryd.prog.cellsOf 23)) = some y4 := h4
    rw [e] at h'
    exact h'
  obtain ⟨m5, y5, h5⟩ := hf 5 _ rfl
  have g5 : DataW.trod enc Tryd.prog w base (fun _ => true) held m5 23 [c5] = some y5 := by
    have e : Tryd.prog.cellsOf 23 = 1 := by kernel_rfl
    have h' : DataW.trod enc Tryd.prog w base (fun _ => true) held m5 23 (([c0, c1, c2, c3, c4, c5, c6, c7].drop 5).take (Tryd.prog.cellsOf 23)) = some y5 := h5
    rw [e] at h'
    exact h'
  obtain ⟨m6, y6, h6⟩ := hf 6 _ rfl
  have g6 : DataW.trod enc Tryd.prog w base (fun _ => true) held m6 24 [c6] = some y6 := by
    have e : Tryd.prog.cellsOf 24 = 1 := by kernel_rfl
    have h' : DataW.trod enc Tryd.prog w base (fun _ => true) held m6 24 (([c0, c1, c2, c3, c4, c5, c6, c7].drop 6).take (Tryd.prog.cellsOf 24)) = some y6 := h6
    rw [e] at h'
    exact h'
  obtain ⟨m7, y7, h7⟩ := hf 7 _ rfl
  have g7 : DataW.trod enc Tryd.prog w base (fun _ => true) held m7 24 [c7] = some y7 := by
    have e : Tryd.prog.cellsOf 24 = 1 := by kernel_rfl
    have h' : DataW.trod enc Tryd.prog w base (fun _ => true) held m7 24 (([c0, c1, c2, c3, c4, c5, c6, c7].drop 7).take (Tryd.prog.cellsOf 24)) = some y7 := h7
    rw [e] at h'
    exact h'
  obtain ⟨x0, e0, _, w0⟩ := DataW.trod_int Tryd.underlying2 g0
  simp only [List.cons.injEq, and_true] at e0
  subst e0
  obtain ⟨x1, e1, _, w1⟩ := DataW.trod_int Tryd.underlying23 g1
  simp only [List.cons.injEq, and_true] at e1
  subst e1
  obtain ⟨x2, e2, _, w2⟩ := DataW.trod_int Tryd.underlying23 g2
  simp only [List.cons.injEq, and_true] at e2
  subst e2
  obtain ⟨x3, e3, _, w3⟩ := DataW.trod_int Tryd.underlying23 g3
  simp only [List.cons.injEq, and_true] at e3
  subst e3
  obtain ⟨x4, e4, _, w4⟩ := DataW.trod_int Tryd.underlying23 g4
  simp only [List.cons.injEq, and_true] at e4
  subst e4
  obtain ⟨x5, e5, _, w5⟩ := DataW.trod_int Tryd.underlying23 g5
  simp only [List.cons.injEq, and_true] at e5
  subst e5
  obtain ⟨x6, e6, _, w6⟩ := DataW.trod_int Tryd.underlying24 g6
  simp only [List.cons.injEq, and_true] at e6
  subst e6
  obtain ⟨x7, e7, _, w7⟩ := DataW.trod_int Tryd.underlying24 g7
  simp only [List.cons.injEq, and_true] at e7
  subst e7
  exact ⟨⟨x0, x1, x2, x3, x4, x5, x6, x7⟩, rfl, ⟨(by have := wf_i64_in w0; omega : -9223372036854775808 ≤ x0 ∧ x0 < 9223372036854775808), (by have := wf_u32_in w1; omega : 0 ≤ x1 ∧ x1 < 4294967296), (by have := wf_u32_in w2; omega : 0 ≤ x2 ∧ x2 < 4294967296), (by have := wf_u32_in w3; omega : 0 ≤ x3 ∧ x3 < 4294967296), (by have := wf_u32_in w4; omega : 0 ≤ x4 ∧ x4 < 4294967296), (by have := wf_u32_in w5; omega : 0 ≤ x5 ∧ x5 < 4294967296), (by have := wf_u16_in w6; omega : 0 ≤ x6 ∧ x6 < 65536), (by have := wf_u16_in w7; omega : 0 ≤ x7 ∧ x7 < 65536)⟩⟩
end
end Go.Proofs.YtcmaclaiholpfaaDoor
