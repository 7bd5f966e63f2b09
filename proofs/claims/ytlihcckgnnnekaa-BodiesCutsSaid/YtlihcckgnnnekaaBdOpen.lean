/-
  Stage 9: what came in as Data, Init, Sack, Forward or one of each, cell by cell. Written by genopen.py.
-/
import Derived.Test.YtlihcckgnnnekaaBdPrs
import Derived.Test.YtlihcckgnnnekaaStructs
namespace Go.Proofs.Ytlihcckgnnnekaa
open Go.ChangeShapes Go.WideShapes Go.Deep Go.RowKit
set_option linter.unusedVariables false

theorem list2 {α : Type} : ∀ {l : List α}, l.length = 2 → ∃ c0 c1, l = [c0, c1]
  | [c0, c1], _ => ⟨c0, c1, rfl⟩

theorem list4 {α : Type} : ∀ {l : List α}, l.length = 4 → ∃ c0 c1 c2 c3, l = [c0, c1, c2, c3]
  | [c0, c1, c2, c3], _ => ⟨c0, c1, c2, c3, rfl⟩

theorem list6 {α : Type} : ∀ {l : List α}, l.length = 6 → ∃ c0 c1 c2 c3 c4 c5, l = [c0, c1, c2, c3, c4, c5]
  | [c0, c1, c2, c3, c4, c5], _ => ⟨c0, c1, c2, c3, c4, c5, rfl⟩

theorem list7 {α : Type} : ∀ {l : List α}, l.length = 7 → ∃ c0 c1 c2 c3 c4 c5 c6, l = [c0, c1, c2, c3, c4, c5, c6]
  | [c0, c1, c2, c3, c4, c5, c6], _ => ⟨c0, c1, c2, c3, c4, c5, c6, rfl⟩

theorem list22 {α : Type} : ∀ {l : List α}, l.length = 22 → ∃ c0 c1 c2 c3 c4 c5 c6 c7 c8 c9 c10 c11 c12 c13 c14 c15 c16 c17 c18 c19 c20 c21, l = [c0, c1, c2, c3, c4, c5, c6, c7, c8, c9, c10, c11, c12, c13, c14, c15, c16, c17, c18, c19, c20, c21]
  | [c0, c1, c2, c3, c4, c5, c6, c7, c8, c9, c10, c11, c12, c13, c14, c15, c16, c17, c18, c19, c20, c21], _ => ⟨c0, c1, c2, c3, c4, c5, c6, c7, c8, c9, c10, c11, c12, c13, c14, c15, c16, c17, c18, c19, c20, c21, rfl⟩

section
variable {H : Type} {enc : TypeId × Value → H} {w : World} {base : Nat} {held : Bool}
theorem open_field {P : Program} {t : TypeId} {fs : Array Field} {fuel : Nat} {cs : List Value} {x : DataW H × List MemPlace} (ht : P.underlying t = some (.struct fs)) (h : DataW.trod enc P w base (fun _ => true) held fuel t cs = some x) :
    cs.length = P.cellsOf t ∧ ∀ (j : Nat) (f : Field), fs[j]? = some f → ∃ n y, DataW.trod enc P w base (fun _ => true) held n f.type ((cs.drop f.offset).take (P.cellsOf f.type)) = some y := by
  obtain ⟨xs, n, _, _, hl, hlen, hf⟩ := DataW.trod_struct ht h
  refine ⟨hl, fun j f hj => ⟨n, ?_⟩⟩
  have h2 := hf j f hj
  have hjl : j < xs.length := by have := (Array.getElem?_eq_some_iff.1 hj).1; omega
  rw [List.getElem?_eq_getElem hjl] at h2
  exact ⟨_, h2⟩
theorem open_u8s {P : Program} {t e : TypeId} {fuel : Nat} {c : Value} {x : DataW H × List MemPlace} (ht : P.underlying t = some (.slice e)) (he : P.underlying e = some (.int .u8)) (hc : P.cellsOf e = 1) (h : DataW.trod enc P w base (fun _ => true) held fuel t [c] = some x) :
    ∃ a len cap zs, c = .slice a len cap ∧ IsRow .u8 w a len cap zs := by
  rcases open_ints ht he hc h with ⟨hcs, _⟩ | ⟨x, l, c', zs, hcs, _, hl, hm, hz, _, hcell, hwz⟩
  · simp only [List.cons.injEq, and_true] at hcs
    exact ⟨none, 0, 0, [], hcs, .inl ⟨rfl, rfl, rfl, rfl⟩⟩
  · simp only [List.cons.injEq, and_true] at hcs
    exact ⟨_, l, c', zs, hcs, .inr ⟨_, rfl, hl, hm, by simpa using hz, hcell, hwz⟩⟩
theorem open_u32s {P : Program} {t e : TypeId} {fuel : Nat} {c : Value} {x : DataW H × List MemPlace} (ht : P.underlying t = some (.slice e)) (he : P.underlying e = some (.int .u32)) (hc : P.cellsOf e = 1) (h : DataW.trod enc P w base (fun _ => true) held fuel t [c] = some x) :
    ∃ a len cap zs, c = .slice a len cap ∧ Nums .u32 w a len zs ∧ len ≤ cap := by
  rcases open_ints ht he hc h with ⟨hcs, _⟩ | ⟨x, l, c', zs, hcs, _, hl, hm, hz, _, hcell, hwz⟩
  · simp only [List.cons.injEq, and_true] at hcs
    exact ⟨none, 0, 0, [], hcs, ⟨rfl, by omega, by intro z hz; simp at hz, by intro i z hz; simp at hz⟩, Nat.le_refl _⟩
  · simp only [List.cons.injEq, and_true] at hcs
    have hrow : IsRow .u32 w (some x) l c' zs := .inr ⟨_, rfl, hl, hm, by simpa using hz, hcell, hwz⟩
    exact ⟨_, l, c', zs.take l, hcs, hrow.nums⟩
theorem open_pairs {P : Program} {t e : TypeId} {fs : Array Field} {fuel : Nat} {c : Value} {x : DataW H × List MemPlace} (ht : P.underlying t = some (.slice e)) (he : P.underlying e = some (.struct fs)) (hone : oneCellFields P fs = true) (hC : P.cellsOf e = fs.size) (hks : kindsB P fs [.u16, .u16] = true)
    (h : DataW.trod enc P w base (fun _ => true) held fuel t [c] = some x) : ∃ a len cap ps, c = .slice a len cap ∧ Prs w a len ps ∧ len ≤ cap := by
  rcases open_int_structs ht he hone hC hks h with hcs | ⟨a, len, cap, m, hcs, hl, hm, hmm, hi⟩
  · simp only [List.cons.injEq, and_true] at hcs
    exact ⟨none, 0, 0, [], hcs, Prs.nil _ _, Nat.le_refl _⟩
  · simp only [List.cons.injEq, and_true] at hcs
    obtain ⟨ps, hpl, hps⟩ := choose_below (α := Int × Int) (p := fun i p => w.cell? (a.add (i * 2 + 0)) = some (.int .u16 p.1) ∧ w.cell? (a.add (i * 2 + 1)) = some (.int .u16 p.2) ∧ (Lit.int .u16 p.1).wf = true ∧ (Lit.int .u16 p.2).wf = true) len (fun i hilt => by
      obtain ⟨z0, h0, w0⟩ := hi i (by omega) 0 .u16 rfl
      obtain ⟨z1, h1, w1⟩ := hi i (by omega) 1 .u16 rfl
      exact ⟨(z0, z1), h0, h1, w0, w1⟩)
    refine ⟨_, len, cap, ps, hcs, ⟨hpl, fun p hp => ?_, fun i p hp => ?_⟩, hl⟩
    · obtain ⟨i, hi'⟩ := List.mem_iff_getElem?.1 hp
      obtain ⟨_, _, w0, w1⟩ := hps i p hi'
      have := wf_u16_in w0
      have := wf_u16_in w1
      unfold InP; omega
    · obtain ⟨h0, h1, _, _⟩ := hps i p hp
      obtain ⟨b, off, spot⟩ := a
      obtain ⟨p00, hp00⟩ : ∃ q, ps[0]? = some q := by
        have : 0 < ps.length := by have := (List.getElem?_eq_some_iff.1 hp).1; omega
        exact ⟨ps[0], by simp [this]⟩
      have hspot : spot = none := by simpa [Addr.add] using World.cell?_spot (hps 0 p00 hp00).1
      subst hspot
      have hadd : ∀ k, (⟨b, off, none⟩ : Addr).add k = ⟨b, off + k, none⟩ := fun k => by unfold Addr.add; split <;> simp_all
      rw [hadd] at h0 h1
      exact ⟨b, off, rfl, World.block_lt_of_cell? w _ h0, by simpa using h0, by rw [Nat.add_assoc]; exact h1⟩

theorem open_Data {fuel : Nat} {cs : List Value} {x : DataW H × List MemPlace} (h : DataW.trod enc Try.prog w base (fun _ => true) held fuel 26 cs = some x) :
    ∃ (x0 : Int) (x1 : Int) (x2 : Int) (x3 : Bool) (x4 : Bool) (x5 : Bool) (a6 : Option Addr) (n6 k6 : Nat) (z6 : List Int), cs = [.int .u32 x0, .int .u16 x1, .int .u16 x2, .bool x3, .bool x4, .bool x5, .slice a6 n6 k6] ∧ (Lit.int .u32 x0).wf = true ∧ (Lit.int .u16 x1).wf = true ∧ (Lit.int .u16 x2).wf = true ∧ True ∧ True ∧ True ∧ IsRow .u8 w a6 n6 k6 z6 := by
  obtain ⟨hl, hf⟩ := open_field Try.underlying26 h
  rw [show Try.prog.cellsOf 26 = 7 by kernel_rfl] at hl
  obtain ⟨c0, c1, c2, c3, c4, c5, c6, rfl⟩ := list7 hl
  obtain ⟨m0, y0, h0⟩ := hf 0 _ rfl
  have g0 : DataW.trod enc Try.prog w base (fun _ => true) held m0 22 [c0] = some y0 := by
    have e : Try.prog.cellsOf 22 = 1 := by kernel_rfl
    have h' : DataW.trod enc Try.prog w base (fun _ => true) held m0 22 (([c0, c1, c2, c3, c4, c5, c6].drop 0).take (Try.prog.cellsOf 22)) = some y0 := h0
    rw [e] at h'
    exact h'
  obtain ⟨m1, y1, h1⟩ := hf 1 _ rfl
  have g1 : DataW.trod enc Try.prog w base (fun _ => true) held m1 23 [c1] = some y1 := by
    have e : Try.prog.cellsOf 23 = 1 := by kernel_rfl
    have h' : DataW.trod enc Try.prog w base (fun _ => true) held m1 23 (([c0, c1, c2, c3, c4, c5, c6].drop 1).take (Try.prog.cellsOf 23)) = some y1 := h1
    rw [e] at h'
    exact h'
  obtain ⟨m2, y2, h2⟩ := hf 2 _ rfl
  have g2 : DataW.trod enc Try.prog w base (fun _ => true) held m2 23 [c2] = some y2 := by
    have e : Try.prog.cellsOf 23 = 1 := by kernel_rfl
    have h' : DataW.trod enc Try.prog w base (fun _ => true) held m2 23 (([c0, c1, c2, c3, c4, c5, c6].drop 2).take (Try.prog.cellsOf 23)) = some y2 := h2
    rw [e] at h'
    exact h'
  obtain ⟨m3, y3, h3⟩ := hf 3 _ rfl
  have g3 : DataW.trod enc Try.prog w base (fun _ => true) held m3 4 [c3] = some y3 := by
    have e : Try.prog.cellsOf 4 = 1 := by kernel_rfl
    have h' : DataW.trod enc Try.prog w base (fun _ => true) held m3 4 (([c0, c1, c2, c3, c4, c5, c6].drop 3).take (Try.prog.cellsOf 4)) = some y3 := h3
    rw [e] at h'
    exact h'
  obtain ⟨m4, y4, h4⟩ := hf 4 _ rfl
  have g4 : DataW.trod enc Try.prog w base (fun _ => true) held m4 4 [c4] = some y4 := by
    have e : Try.prog.cellsOf 4 = 1 := by kernel_rfl
    have h' : DataW.trod enc Try.prog w base (fun _ => true) held m4 4 (([c0, c1, c2, c3, c4, c5, c6].drop 4).take (Try.prog.cellsOf 4)) = some y4 := h4
    rw [e] at h'
    exact h'
  obtain ⟨m5, y5, h5⟩ := hf 5 _ rfl
  have g5 : DataW.trod enc Try.prog w base (fun _ => true) held m5 4 [c5] = some y5 := by
    have e : Try.prog.cellsOf 4 = 1 := by kernel_rfl
    have h' : DataW.trod enc Try.prog w base (fun _ => true) held m5 4 (([c0, c1, c2, c3, c4, c5, c6].drop 5).take (Try.prog.cellsOf 4)) = some y5 := h5
    rw [e] at h'
    exact h'
  obtain ⟨m6, y6, h6⟩ := hf 6 _ rfl
  have g6 : DataW.trod enc Try.prog w base (fun _ => true) held m6 24 [c6] = some y6 := by
    have e : Try.prog.cellsOf 24 = 1 := by kernel_rfl
    have h' : DataW.trod enc Try.prog w base (fun _ => true) held m6 24 (([c0, c1, c2, c3, c4, c5, c6].drop 6).take (Try.prog.cellsOf 24)) = some y6 := h6
    rw [e] at h'
    exact h'
  obtain ⟨x0, e0, _, w0⟩ := DataW.trod_int Try.underlying22 g0
  simp only [List.cons.injEq, and_true] at e0
  subst e0
  obtain ⟨x1, e1, _, w1⟩ := DataW.trod_int Try.underlying23 g1
  simp only [List.cons.injEq, and_true] at e1
  subst e1
  obtain ⟨x2, e2, _, w2⟩ := DataW.trod_int Try.underlying23 g2
  simp only [List.cons.injEq, and_true] at e2
  subst e2
  obtain ⟨x3, e3, _⟩ := DataW.trod_bool Try.underlying4 g3
  simp only [List.cons.injEq, and_true] at e3
  subst e3
  obtain ⟨x4, e4, _⟩ := DataW.trod_bool Try.underlying4 g4
  simp only [List.cons.injEq, and_true] at e4
  subst e4
  obtain ⟨x5, e5, _⟩ := DataW.trod_bool Try.underlying4 g5
  simp only [List.cons.injEq, and_true] at e5
  subst e5
  obtain ⟨a6, n6, k6, z6, e6, w6⟩ := open_u8s Try.underlying24 Try.underlying5 (by kernel_rfl) g6
  subst e6
  exact ⟨x0, x1, x2, x3, x4, x5, a6, n6, k6, z6, rfl, w0, w1, w2, trivial, trivial, trivial, w6⟩

theorem open_Init {fuel : Nat} {cs : List Value} {x : DataW H × List MemPlace} (h : DataW.trod enc Try.prog w base (fun _ => true) held fuel 43 cs = some x) :
    ∃ (x0 : Int) (x1 : Int) (x2 : Int) (x3 : Int) (x4 : Int) (a5 : Option Addr) (n5 k5 : Nat) (z5 : List Int), cs = [.int .u32 x0, .int .u32 x1, .int .u16 x2, .int .u16 x3, .int .u32 x4, .slice a5 n5 k5] ∧ (Lit.int .u32 x0).wf = true ∧ (Lit.int .u32 x1).wf = true ∧ (Lit.int .u16 x2).wf = true ∧ (Lit.int .u16 x3).wf = true ∧ (Lit.int .u32 x4).wf = true ∧ IsRow .u8 w a5 n5 k5 z5 := by
  obtain ⟨hl, hf⟩ := open_field Try.underlying43 h
  rw [show Try.prog.cellsOf 43 = 6 by kernel_rfl] at hl
  obtain ⟨c0, c1, c2, c3, c4, c5, rfl⟩ := list6 hl
  obtain ⟨m0, y0, h0⟩ := hf 0 _ rfl
  have g0 : DataW.trod enc Try.prog w base (fun _ => true) held m0 22 [c0] = some y0 := by
    have e : Try.prog.cellsOf 22 = 1 := by kernel_rfl
    have h' : DataW.trod enc Try.prog w base (fun _ => true) held m0 22 (([c0, c1, c2, c3, c4, c5].drop 0).take (Try.prog.cellsOf 22)) = some y0 := h0
    rw [e] at h'
    exact h'
  obtain ⟨m1, y1, h1⟩ := hf 1 _ rfl
  have g1 : DataW.trod enc Try.prog w base (fun _ => true) held m1 22 [c1] = some y1 := by
    have e : Try.prog.cellsOf 22 = 1 := by kernel_rfl
    have h' : DataW.trod enc Try.prog w base (fun _ => true) held m1 22 (([c0, c1, c2, c3, c4, c5].drop 1).take (Try.prog.cellsOf 22)) = some y1 := h1
    rw [e] at h'
    exact h'
  obtain ⟨m2, y2, h2⟩ := hf 2 _ rfl
  have g2 : DataW.trod enc Try.prog w base (fun _ => true) held m2 23 [c2] = some y2 := by
    have e : Try.prog.cellsOf 23 = 1 := by kernel_rfl
    have h' : DataW.trod enc Try.prog w base (fun _ => true) held m2 23 (([c0, c1, c2, c3, c4, c5].drop 2).take (Try.prog.cellsOf 23)) = some y2 := h2
    rw [e] at h'
    exact h'
  obtain ⟨m3, y3, h3⟩ := hf 3 _ rfl
  have g3 : DataW.trod enc Try.prog w base (fun _ => true) held m3 23 [c3] = some y3 := by
    have e : Try.prog.cellsOf 23 = 1 := by kernel_rfl
    have h' : DataW.trod enc Try.prog w base (fun _ => true) held m3 23 (([c0, c1, c2, c3, c4, c5].drop 3).take (Try.prog.cellsOf 23)) = some y3 := h3
    rw [e] at h'
    exact h'
  obtain ⟨m4, y4, h4⟩ := hf 4 _ rfl
  have g4 : DataW.trod enc Try.prog w base (fun _ => true) held m4 22 [c4] = some y4 := by
    have e : Try.prog.cellsOf 22 = 1 := by kernel_rfl
    have h' : DataW.trod enc Try.prog w base (fun _ => true) held m4 22 (([c0, c1, c2, c3, c4, c5].drop 4).take (Try.prog.cellsOf 22)) = some y4 := h4
    rw [e] at h'
    exact h'
  obtain ⟨m5, y5, h5⟩ := hf 5 _ rfl
  have g5 : DataW.trod enc Try.prog w base (fun _ => true) held m5 24 [c5] = some y5 := by
    have e : Try.prog.cellsOf 24 = 1 := by kernel_rfl
    have h' : DataW.trod enc Try.prog w base (fun _ => true) held m5 24 (([c0, c1, c2, c3, c4, c5].drop 5).take (Try.prog.cellsOf 24)) = some y5 := h5
    rw [e] at h'
    exact h'
  obtain ⟨x0, e0, _, w0⟩ := DataW.trod_int Try.underlying22 g0
  simp only [List.cons.injEq, and_true] at e0
  subst e0
  obtain ⟨x1, e1, _, w1⟩ := DataW.trod_int Try.underlying22 g1
  simp only [List.cons.injEq, and_true] at e1
  subst e1
  obtain ⟨x2, e2, _, w2⟩ := DataW.trod_int Try.underlying23 g2
  simp only [List.cons.injEq, and_true] at e2
  subst e2
  obtain ⟨x3, e3, _, w3⟩ := DataW.trod_int Try.underlying23 g3
  simp only [List.cons.injEq, and_true] at e3
  subst e3
  obtain ⟨x4, e4, _, w4⟩ := DataW.trod_int Try.underlying22 g4
  simp only [List.cons.injEq, and_true] at e4
  subst e4
  obtain ⟨a5, n5, k5, z5, e5, w5⟩ := open_u8s Try.underlying24 Try.underlying5 (by kernel_rfl) g5
  subst e5
  exact ⟨x0, x1, x2, x3, x4, a5, n5, k5, z5, rfl, w0, w1, w2, w3, w4, w5⟩

theorem open_Sack {fuel : Nat} {cs : List Value} {x : DataW H × List MemPlace} (h : DataW.trod enc Try.prog w base (fun _ => true) held fuel 52 cs = some x) :
    ∃ (x0 : Int) (x1 : Int) (a2 : Option Addr) (n2 k2 : Nat) (z2 : List (Int × Int)) (a3 : Option Addr) (n3 k3 : Nat) (z3 : List Int), cs = [.int .u32 x0, .int .u32 x1, .slice a2 n2 k2, .slice a3 n3 k3] ∧ (Lit.int .u32 x0).wf = true ∧ (Lit.int .u32 x1).wf = true ∧ (Prs w a2 n2 z2 ∧ n2 ≤ k2) ∧ (Nums .u32 w a3 n3 z3 ∧ n3 ≤ k3) := by
  obtain ⟨hl, hf⟩ := open_field Try.underlying52 h
  rw [show Try.prog.cellsOf 52 = 4 by kernel_rfl] at hl
  obtain ⟨c0, c1, c2, c3, rfl⟩ := list4 hl
  obtain ⟨m0, y0, h0⟩ := hf 0 _ rfl
  have g0 : DataW.trod enc Try.prog w base (fun _ => true) held m0 22 [c0] = some y0 := by
    have e : Try.prog.cellsOf 22 = 1 := by kernel_rfl
    have h' : DataW.trod enc Try.prog w base (fun _ => true) held m0 22 (([c0, c1, c2, c3].drop 0).take (Try.prog.cellsOf 22)) = some y0 := h0
    rw [e] at h'
    exact h'
  obtain ⟨m1, y1, h1⟩ := hf 1 _ rfl
  have g1 : DataW.trod enc Try.prog w base (fun _ => true) held m1 22 [c1] = some y1 := by
    have e : Try.prog.cellsOf 22 = 1 := by kernel_rfl
    have h' : DataW.trod enc Try.prog w base (fun _ => true) held m1 22 (([c0, c1, c2, c3].drop 1).take (Try.prog.cellsOf 22)) = some y1 := h1
    rw [e] at h'
    exact h'
  obtain ⟨m2, y2, h2⟩ := hf 2 _ rfl
  have g2 : DataW.trod enc Try.prog w base (fun _ => true) held m2 49 [c2] = some y2 := by
    have e : Try.prog.cellsOf 49 = 1 := by kernel_rfl
    have h' : DataW.trod enc Try.prog w base (fun _ => true) held m2 49 (([c0, c1, c2, c3].drop 2).take (Try.prog.cellsOf 49)) = some y2 := h2
    rw [e] at h'
    exact h'
  obtain ⟨m3, y3, h3⟩ := hf 3 _ rfl
  have g3 : DataW.trod enc Try.prog w base (fun _ => true) held m3 50 [c3] = some y3 := by
    have e : Try.prog.cellsOf 50 = 1 := by kernel_rfl
    have h' : DataW.trod enc Try.prog w base (fun _ => true) held m3 50 (([c0, c1, c2, c3].drop 3).take (Try.prog.cellsOf 50)) = some y3 := h3
    rw [e] at h'
    exact h'
  obtain ⟨x0, e0, _, w0⟩ := DataW.trod_int Try.underlying22 g0
  simp only [List.cons.injEq, and_true] at e0
  subst e0
  obtain ⟨x1, e1, _, w1⟩ := DataW.trod_int Try.underlying22 g1
  simp only [List.cons.injEq, and_true] at e1
  subst e1
  obtain ⟨a2, n2, k2, z2, e2, w2⟩ := open_pairs Try.underlying49 Try.underlying79 (by kernel_rfl) (by kernel_rfl) (by kernel_rfl) g2
  subst e2
  obtain ⟨a3, n3, k3, z3, e3, w3⟩ := open_u32s Try.underlying50 Try.underlying22 (by kernel_rfl) g3
  subst e3
  exact ⟨x0, x1, a2, n2, k2, z2, a3, n3, k3, z3, rfl, w0, w1, w2, w3⟩

theorem open_Forward {fuel : Nat} {cs : List Value} {x : DataW H × List MemPlace} (h : DataW.trod enc Try.prog w base (fun _ => true) held fuel 56 cs = some x) :
    ∃ (x0 : Int) (a1 : Option Addr) (n1 k1 : Nat) (z1 : List (Int × Int)), cs = [.int .u32 x0, .slice a1 n1 k1] ∧ (Lit.int .u32 x0).wf = true ∧ (Prs w a1 n1 z1 ∧ n1 ≤ k1) := by
  obtain ⟨hl, hf⟩ := open_field Try.underlying56 h
  rw [show Try.prog.cellsOf 56 = 2 by kernel_rfl] at hl
  obtain ⟨c0, c1, rfl⟩ := list2 hl
  obtain ⟨m0, y0, h0⟩ := hf 0 _ rfl
  have g0 : DataW.trod enc Try.prog w base (fun _ => true) held m0 22 [c0] = some y0 := by
    have e : Try.prog.cellsOf 22 = 1 := by kernel_rfl
    have h' : DataW.trod enc Try.prog w base (fun _ => true) held m0 22 (([c0, c1].drop 0).take (Try.prog.cellsOf 22)) = some y0 := h0
    rw [e] at h'
    exact h'
  obtain ⟨m1, y1, h1⟩ := hf 1 _ rfl
  have g1 : DataW.trod enc Try.prog w base (fun _ => true) held m1 54 [c1] = some y1 := by
    have e : Try.prog.cellsOf 54 = 1 := by kernel_rfl
    have h' : DataW.trod enc Try.prog w base (fun _ => true) held m1 54 (([c0, c1].drop 1).take (Try.prog.cellsOf 54)) = some y1 := h1
    rw [e] at h'
    exact h'
  obtain ⟨x0, e0, _, w0⟩ := DataW.trod_int Try.underlying22 g0
  simp only [List.cons.injEq, and_true] at e0
  subst e0
  obtain ⟨a1, n1, k1, z1, e1, w1⟩ := open_pairs Try.underlying54 Try.underlying100 (by kernel_rfl) (by kernel_rfl) (by kernel_rfl) g1
  subst e1
  exact ⟨x0, a1, n1, k1, z1, rfl, w0, w1⟩

theorem open_All {fuel : Nat} {cs : List Value} {x : DataW H × List MemPlace} (h : DataW.trod enc Try.prog w base (fun _ => true) held fuel 77 cs = some x) :
    ∃ (ak : Bool) (d i s f : List Value) (at' cu : Int) (t0 t1 t2 t3 : Nat) (y1 y2 y3 y4 : DataW H × List MemPlace), cs = .bool ak :: (d ++ (i ++ (s ++ (f ++ [.int .i64 at', .int .u32 cu])))) ∧
      DataW.trod enc Try.prog w base (fun _ => true) held t0 26 d = some y1 ∧ DataW.trod enc Try.prog w base (fun _ => true) held t1 43 i = some y2 ∧ DataW.trod enc Try.prog w base (fun _ => true) held t2 52 s = some y3 ∧ DataW.trod enc Try.prog w base (fun _ => true) held t3 56 f = some y4 ∧ (Lit.int .i64 at').wf = true ∧ (Lit.int .u32 cu).wf = true := by
  obtain ⟨hl, hf⟩ := open_field Try.underlying77 h
  rw [show Try.prog.cellsOf 77 = 22 by kernel_rfl] at hl
  obtain ⟨c0, c1, c2, c3, c4, c5, c6, c7, c8, c9, c10, c11, c12, c13, c14, c15, c16, c17, c18, c19, c20, c21, rfl⟩ := list22 hl
  obtain ⟨m0, q0, h0⟩ := hf 0 _ rfl
  have g0 : DataW.trod enc Try.prog w base (fun _ => true) held m0 4 [c0] = some q0 := by
    have e : Try.prog.cellsOf 4 = 1 := by kernel_rfl
    have h' : DataW.trod enc Try.prog w base (fun _ => true) held m0 4 (([c0, c1, c2, c3, c4, c5, c6, c7, c8, c9, c10, c11, c12, c13, c14, c15, c16, c17, c18, c19, c20, c21].drop 0).take (Try.prog.cellsOf 4)) = some q0 := h0
    rw [e] at h'
    exact h'
  obtain ⟨m1, q1, h1⟩ := hf 1 _ rfl
  have g1 : DataW.trod enc Try.prog w base (fun _ => true) held m1 26 [c1, c2, c3, c4, c5, c6, c7] = some q1 := by
    have e : Try.prog.cellsOf 26 = 7 := by kernel_rfl
    have h' : DataW.trod enc Try.prog w base (fun _ => true) held m1 26 (([c0, c1, c2, c3, c4, c5, c6, c7, c8, c9, c10, c11, c12, c13, c14, c15, c16, c17, c18, c19, c20, c21].drop 1).take (Try.prog.cellsOf 26)) = some q1 := h1
    rw [e] at h'
    exact h'
  obtain ⟨m2, q2, h2⟩ := hf 2 _ rfl
  have g2 : DataW.trod enc Try.prog w base (fun _ => true) held m2 43 [c8, c9, c10, c11, c12, c13] = some q2 := by
    have e : Try.prog.cellsOf 43 = 6 := by kernel_rfl
    have h' : DataW.trod enc Try.prog w base (fun _ => true) held m2 43 (([c0, c1, c2, c3, c4, c5, c6, c7, c8, c9, c10, c11, c12, c13, c14, c15, c16, c17, c18, c19, c20, c21].drop 8).take (Try.prog.cellsOf 43)) = some q2 := h2
    rw [e] at h'
    exact h'
  obtain ⟨m3, q3, h3⟩ := hf 3 _ rfl
  have g3 : DataW.trod enc Try.prog w base (fun _ => true) held m3 52 [c14, c15, c16, c17] = some q3 := by
    have e : Try.prog.cellsOf 52 = 4 := by kernel_rfl
    have h' : DataW.trod enc Try.prog w base (fun _ => true) held m3 52 (([c0, c1, c2, c3, c4, c5, c6, c7, c8, c9, c10, c11, c12, c13, c14, c15, c16, c17, c18, c19, c20, c21].drop 14).take (Try.prog.cellsOf 52)) = some q3 := h3
    rw [e] at h'
    exact h'
  obtain ⟨m4, q4, h4⟩ := hf 4 _ rfl
  have g4 : DataW.trod enc Try.prog w base (fun _ => true) held m4 56 [c18, c19] = some q4 := by
    have e : Try.prog.cellsOf 56 = 2 := by kernel_rfl
    have h' : DataW.trod enc Try.prog w base (fun _ => true) held m4 56 (([c0, c1, c2, c3, c4, c5, c6, c7, c8, c9, c10, c11, c12, c13, c14, c15, c16, c17, c18, c19, c20, c21].drop 18).take (Try.prog.cellsOf 56)) = some q4 := h4
    rw [e] at h'
    exact h'
  obtain ⟨m5, q5, h5⟩ := hf 5 _ rfl
  have g5 : DataW.trod enc Try.prog w base (fun _ => true) held m5 2 [c20] = some q5 := by
    have e : Try.prog.cellsOf 2 = 1 := by kernel_rfl
    have h' : DataW.trod enc Try.prog w base (fun _ => true) held m5 2 (([c0, c1, c2, c3, c4, c5, c6, c7, c8, c9, c10, c11, c12, c13, c14, c15, c16, c17, c18, c19, c20, c21].drop 20).take (Try.prog.cellsOf 2)) = some q5 := h5
    rw [e] at h'
    exact h'
  obtain ⟨m6, q6, h6⟩ := hf 6 _ rfl
  have g6 : DataW.trod enc Try.prog w base (fun _ => true) held m6 22 [c21] = some q6 := by
    have e : Try.prog.cellsOf 22 = 1 := by kernel_rfl
    have h' : DataW.trod enc Try.prog w base (fun _ => true) held m6 22 (([c0, c1, c2, c3, c4, c5, c6, c7, c8, c9, c10, c11, c12, c13, c14, c15, c16, c17, c18, c19, c20, c21].drop 21).take (Try.prog.cellsOf 22)) = some q6 := h6
    rw [e] at h'
    exact h'
  obtain ⟨ak, e0, _⟩ := DataW.trod_bool Try.underlying4 g0
  simp only [List.cons.injEq, and_true] at e0
  subst e0
  obtain ⟨at', e5, _, w5⟩ := DataW.trod_int Try.underlying2 g5
  simp only [List.cons.injEq, and_true] at e5
  subst e5
  obtain ⟨cu, e6, _, w6⟩ := DataW.trod_int Try.underlying22 g6
  simp only [List.cons.injEq, and_true] at e6
  subst e6
  exact ⟨ak, _, _, _, _, at', cu, m1, m2, m3, m4, q1, q2, q3, q4, rfl, g1, g2, g3, g4, w5, w6⟩
end
end Go.Proofs.Ytlihcckgnnnekaa
