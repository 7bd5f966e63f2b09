/-
  Stage 10: what came in as Packet, Burst or Turn, cell by cell. Written by genpkopen.py.
-/
import Derived.Test.YtnndlpbbllmpjaaMgB
namespace Go.Proofs.Ytnndlpbbllmpjaa
open Go.ChangeShapes Go.WideShapes Go.Deep Go.RowKit
set_option linter.unusedVariables false
theorem plist2 {α : Type} : ∀ {l : List α}, l.length = 2 → ∃ c0 c1, l = [c0, c1]
  | [c0, c1], _ => ⟨c0, c1, rfl⟩
theorem plist4 {α : Type} : ∀ {l : List α}, l.length = 4 → ∃ c0 c1 c2 c3, l = [c0, c1, c2, c3]
  | [c0, c1, c2, c3], _ => ⟨c0, c1, c2, c3, rfl⟩
section
variable {H : Type} {enc : TypeId × Value → H} {w : World} {base : Nat} {held : Bool}
theorem popen_field {P : Program} {t : TypeId} {fs : Array Field} {fuel : Nat} {cs : List Value} {x : DataW H × List MemPlace} (ht : P.underlying t = some (.struct fs)) (h : DataW.trod enc P w base (fun _ => true) held fuel t cs = some x) :
    cs.length = P.cellsOf t ∧ ∀ (j : Nat) (f : Field), fs[j]? = some f → ∃ n y, DataW.trod enc P w base (fun _ => true) held n f.type ((cs.drop f.offset).take (P.cellsOf f.type)) = some y := by
  obtain ⟨xs, n, _, _, hl, hlen, hf⟩ := DataW.trod_struct ht h
  refine ⟨hl, fun j f hj => ⟨n, ?_⟩⟩
  have h2 := hf j f hj
  have hjl : j < xs.length := by have := (Array.getElem?_eq_some_iff.1 hj).1; omega
  rw [List.getElem?_eq_getElem hjl] at h2
  exact ⟨_, h2⟩
theorem open_slice_cell {P : Program} {t e : TypeId} {fuel : Nat} {c : Value} {x : DataW H × List MemPlace} (ht : P.underlying t = some (.slice e)) (h : DataW.trod enc P w base (fun _ => true) held fuel t [c] = some x) :
    ∃ a len cap, c = .slice a len cap := by
  rcases open_slice ht h with h0 | ⟨a, len, cap, m, n, D, Pl, hcs, _⟩
  · have := h0.1
    simp only [List.cons.injEq, and_true] at this
    exact ⟨_, _, _, this⟩
  · simp only [List.cons.injEq, and_true] at hcs
    exact ⟨_, _, _, hcs⟩
theorem open_Packet {fuel : Nat} {cs : List Value} {x : DataW H × List MemPlace} (h : DataW.trod enc Try.prog w base (fun _ => true) held fuel 25 cs = some x) :
    ∃ (x0 : Int) (a1 : Option Addr) (n1 k1 : Nat) (z1 : List Ck), cs = [.int .u32 x0, .slice a1 n1 k1] ∧ (Lit.int .u32 x0).wf = true ∧ RowsCk w a1 n1 k1 z1 := by
  obtain ⟨hl, hf⟩ := popen_field Try.underlying25 h
  rw [show Try.prog.cellsOf 25 = 2 by kernel_rfl] at hl
  obtain ⟨c0, c1, rfl⟩ := plist2 hl
  obtain ⟨m0, y0, h0⟩ := hf 0 _ rfl
  have g0 : DataW.trod enc Try.prog w base (fun _ => true) held m0 22 [c0] = some y0 := by
    have e : Try.prog.cellsOf 22 = 1 := by kernel_rfl
    have h' : DataW.trod enc Try.prog w base (fun _ => true) held m0 22 (([c0, c1].drop 0).take (Try.prog.cellsOf 22)) = some y0 := h0
    rw [e] at h'
    exact h'
  obtain ⟨m1, y1, h1⟩ := hf 1 _ rfl
  have g1 : DataW.trod enc Try.prog w base (fun _ => true) held m1 23 [c1] = some y1 := by
    have e : Try.prog.cellsOf 23 = 1 := by kernel_rfl
    have h' : DataW.trod enc Try.prog w base (fun _ => true) held m1 23 (([c0, c1].drop 1).take (Try.prog.cellsOf 23)) = some y1 := h1
    rw [e] at h'
    exact h'
  obtain ⟨x0, e0, _, w0⟩ := DataW.trod_int Try.underlying22 g0
  simp only [List.cons.injEq, and_true] at e0
  subst e0
  obtain ⟨a1, n1, k1, rfl⟩ := open_slice_cell Try.underlying23 g1
  obtain ⟨L, hL⟩ := rowsck_in g1
  exact ⟨x0, a1, n1, k1, L, rfl, w0, hL⟩

theorem open_Burst {fuel : Nat} {cs : List Value} {x : DataW H × List MemPlace} (h : DataW.trod enc Try.prog w base (fun _ => true) held fuel 48 cs = some x) :
    ∃ (x0 : Int) (a1 : Option Addr) (n1 k1 : Nat) (z1 : List Ck) (x1 x2 : Int), cs = [.int .u32 x0, .slice a1 n1 k1, .int .i64 x1, .int .u32 x2] ∧ (Lit.int .u32 x0).wf = true ∧ RowsCk w a1 n1 k1 z1 ∧ (Lit.int .i64 x1).wf = true ∧ (Lit.int .u32 x2).wf = true := by
  obtain ⟨hl, hf⟩ := popen_field Try.underlying48 h
  rw [show Try.prog.cellsOf 48 = 4 by kernel_rfl] at hl
  obtain ⟨c0, c1, c2, c3, rfl⟩ := plist4 hl
  obtain ⟨m0, y0, h0⟩ := hf 0 _ rfl
  have g0 : DataW.trod enc Try.prog w base (fun _ => true) held m0 25 [c0, c1] = some y0 := by
    have e : Try.prog.cellsOf 25 = 2 := by kernel_rfl
    have h' : DataW.trod enc Try.prog w base (fun _ => true) held m0 25 (([c0, c1, c2, c3].drop 0).take (Try.prog.cellsOf 25)) = some y0 := h0
    rw [e] at h'
    exact h'
  obtain ⟨m1, y1, h1⟩ := hf 1 _ rfl
  have g1 : DataW.trod enc Try.prog w base (fun _ => true) held m1 3 [c2] = some y1 := by
    have e : Try.prog.cellsOf 3 = 1 := by kernel_rfl
    have h' : DataW.trod enc Try.prog w base (fun _ => true) held m1 3 (([c0, c1, c2, c3].drop 2).take (Try.prog.cellsOf 3)) = some y1 := h1
    rw [e] at h'
    exact h'
  obtain ⟨m2, y2, h2⟩ := hf 2 _ rfl
  have g2 : DataW.trod enc Try.prog w base (fun _ => true) held m2 22 [c3] = some y2 := by
    have e : Try.prog.cellsOf 22 = 1 := by kernel_rfl
    have h' : DataW.trod enc Try.prog w base (fun _ => true) held m2 22 (([c0, c1, c2, c3].drop 3).take (Try.prog.cellsOf 22)) = some y2 := h2
    rw [e] at h'
    exact h'
  obtain ⟨x1, e1, _, w1⟩ := DataW.trod_int Try.underlying3 g1
  simp only [List.cons.injEq, and_true] at e1
  subst e1
  obtain ⟨x2, e2, _, w2⟩ := DataW.trod_int Try.underlying22 g2
  simp only [List.cons.injEq, and_true] at e2
  subst e2
  obtain ⟨x0, a1, n1, k1, z1, e0, w0, hR⟩ := open_Packet g0
  simp only [List.cons.injEq, and_true] at e0
  obtain ⟨rfl, rfl⟩ := e0
  exact ⟨x0, a1, n1, k1, z1, x1, x2, rfl, w0, hR, w1, w2⟩

theorem open_Turn {fuel : Nat} {cs : List Value} {x : DataW H × List MemPlace} (h : DataW.trod enc Try.prog w base (fun _ => true) held fuel 53 cs = some x) :
    ∃ (x0 : Int) (a1 : Option Addr) (n1 k1 : Nat) (z1 : List Ck) (x1 x2 : Int), cs = [.int .u32 x0, .slice a1 n1 k1, .int .u16 x1, .int .u8 x2] ∧ (Lit.int .u32 x0).wf = true ∧ RowsCk w a1 n1 k1 z1 ∧ (Lit.int .u16 x1).wf = true ∧ (Lit.int .u8 x2).wf = true := by
  obtain ⟨hl, hf⟩ := popen_field Try.underlying53 h
  rw [show Try.prog.cellsOf 53 = 4 by kernel_rfl] at hl
  obtain ⟨c0, c1, c2, c3, rfl⟩ := plist4 hl
  obtain ⟨m0, y0, h0⟩ := hf 0 _ rfl
  have g0 : DataW.trod enc Try.prog w base (fun _ => true) held m0 25 [c0, c1] = some y0 := by
    have e : Try.prog.cellsOf 25 = 2 := by kernel_rfl
    have h' : DataW.trod enc Try.prog w base (fun _ => true) held m0 25 (([c0, c1, c2, c3].drop 0).take (Try.prog.cellsOf 25)) = some y0 := h0
    rw [e] at h'
    exact h'
  obtain ⟨m1, y1, h1⟩ := hf 1 _ rfl
  have g1 : DataW.trod enc Try.prog w base (fun _ => true) held m1 51 [c2] = some y1 := by
    have e : Try.prog.cellsOf 51 = 1 := by kernel_rfl
    have h' : DataW.trod enc Try.prog w base (fun _ => true) held m1 51 (([c0, c1, c2, c3].drop 2).take (Try.prog.cellsOf 51)) = some y1 := h1
    rw [e] at h'
    exact h'
  obtain ⟨m2, y2, h2⟩ := hf 2 _ rfl
  have g2 : DataW.trod enc Try.prog w base (fun _ => true) held m2 5 [c3] = some y2 := by
    have e : Try.prog.cellsOf 5 = 1 := by kernel_rfl
    have h' : DataW.trod enc Try.prog w base (fun _ => true) held m2 5 (([c0, c1, c2, c3].drop 3).take (Try.prog.cellsOf 5)) = some y2 := h2
    rw [e] at h'
    exact h'
  obtain ⟨x1, e1, _, w1⟩ := DataW.trod_int Try.underlying51 g1
  simp only [List.cons.injEq, and_true] at e1
  subst e1
  obtain ⟨x2, e2, _, w2⟩ := DataW.trod_int Try.underlying5 g2
  simp only [List.cons.injEq, and_true] at e2
  subst e2
  obtain ⟨x0, a1, n1, k1, z1, e0, w0, hR⟩ := open_Packet g0
  simp only [List.cons.injEq, and_true] at e0
  obtain ⟨rfl, rfl⟩ := e0
  exact ⟨x0, a1, n1, k1, z1, x1, x2, rfl, w0, hR, w1, w2⟩

end
end Go.Proofs.Ytnndlpbbllmpjaa
